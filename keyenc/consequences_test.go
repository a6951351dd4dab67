package keyenc

import (
	"cmp"
	"math"
	"math/rand/v2"
	"slices"
	"strings"
	"testing"

	"docstore/api"
	"docstore/sample"
	"docstore/value"
)

// compareLists is what P3.4 says of two lists of the same length.
func compareLists(a, b []api.Value, desc []bool) int {
	for i := range a {
		if c := value.Compare(a[i], b[i]); c != 0 {
			if desc[i] {
				return -c
			}
			return c
		}
	}
	return 0
}

func expectOrder(t *testing.T, a, b []api.Value, desc []bool) {
	t.Helper()
	got, want := cmp.Compare(encode(t, a, desc), encode(t, b, desc)), compareLists(a, b, desc)
	if got != want {
		t.Errorf("the keys of %s and %s, %s compare as %d; expected %d", show(a), show(b), show(desc), got, want)
	}
}

// P3.4: values of the same and of different kinds, in both directions.
func TestOrderOfValues(t *testing.T) {
	pool := encodedPool()
	for i, a := range pool {
		for j, b := range pool {
			if c := value.Compare(a.v, b.v); c != cmp.Compare(i, j) {
				t.Fatalf("the pool is not in order: %s and %s", show(a.v), show(b.v))
			}
			expectOrder(t, values(a.v), values(b.v), directions(false))
			expectOrder(t, values(a.v), values(b.v), directions(true))
		}
	}
}

// P3.4: the first position at which lists differ decides.
func TestOrderOfLists(t *testing.T) {
	var pool []api.Value
	for i, c := range encodedPool() {
		if i%4 == 0 || c.v.Kind == api.KindText {
			pool = append(pool, c.v)
		}
	}
	for _, desc := range [][]bool{{false, false}, {false, true}, {true, false}, {true, true}} {
		for _, a := range pool {
			for _, b := range pool {
				for _, c := range pool {
					expectOrder(t, values(a, b), values(a, c), desc)
					expectOrder(t, values(a, b), values(c, a), desc)
					expectOrder(t, values(a, b), values(c, b), desc)
				}
			}
		}
	}
}

// randomValue returns a valid value with at most the given number of levels. Values are often alike, so that they differ late.
func randomValue(r *rand.Rand, levels int) api.Value {
	kinds := []int{api.KindMin, api.KindNull, api.KindMax, api.KindInt, api.KindBool, api.KindTime, api.KindText, api.KindBytes, api.KindID, api.KindList, api.KindDoc, api.KindList, api.KindDoc}
	v := api.Value{Kind: kinds[r.IntN(len(kinds))]}
	switch v.Kind {
	case api.KindInt:
		v.Int = int(r.Uint64()) >> r.IntN(64)
	case api.KindBool:
		v.Int = r.IntN(2)
	case api.KindTime:
		v.Int = (int(r.Uint64()) & math.MaxInt) >> r.IntN(63)
	case api.KindText:
		v.Text = randomText(r, []string{"\x00", "\x01", "a", "\u00ff"}, r.IntN(4))
	case api.KindBytes:
		v.Text = randomText(r, []string{"\x00", "\x01", "a", "\xff"}, r.IntN(4))
	case api.KindID:
		v.Text = randomText(r, []string{"\x00", "a", "\xff"}, 12)
	case api.KindList:
		for range r.IntN(4) * min(1, levels-1) {
			v.List = append(v.List, randomValue(r, levels-1))
		}
	case api.KindDoc:
		for i := range r.IntN(4) * min(1, levels-1) {
			name := strings.Repeat("n", i) + randomText(r, []string{"!", "a", "~"}, 1)
			v.Doc = append(v.Doc, field(name, randomValue(r, levels-1)))
		}
	}
	return v
}

func randomText(r *rand.Rand, parts []string, n int) string {
	s := ""
	for range n {
		s += parts[r.IntN(len(parts))]
	}
	return s
}

// randomList returns a list with its directions.
func randomList(r *rand.Rand) ([]api.Value, []bool) {
	l, desc := []api.Value{}, []bool{}
	for range r.IntN(5) {
		v := missing
		if r.IntN(8) > 0 {
			v = randomValue(r, 1+r.IntN(4))
		}
		l, desc = append(l, v), append(desc, r.IntN(2) == 1)
	}
	return l, desc
}

// changed returns a list in which one value is another one, or a part of it is.
func changed(r *rand.Rand, l []api.Value) []api.Value {
	l = slices.Clone(l)
	if len(l) == 0 {
		return l
	}
	i := r.IntN(len(l))
	v := l[i]
	switch {
	case v.Kind == api.KindList && len(v.List) > 0 && r.IntN(3) > 0:
		v.List = changed(r, v.List)
	case v.Kind == api.KindDoc && len(v.Doc) > 0 && r.IntN(3) > 0:
		v.Doc = slices.Clone(v.Doc)
		v.Doc[len(v.Doc)-1].Value = randomValue(r, 2)
	default:
		v = randomValue(r, 2)
	}
	l[i] = v
	return l
}

// P3.4, P3.5: lists of all kinds of values, and lists that are like them.
func TestRandomLists(t *testing.T) {
	r := rand.New(rand.NewPCG(3, 4))
	for range 20000 {
		l, desc := randomList(r)
		expectKey(t, l, desc, encode(t, l, desc))
		other := changed(r, l)
		expectOrder(t, l, other, desc)
		expectOrder(t, other, l, desc)
	}
}

// P3.4: equal keys are keys of equal lists.
func TestEqualKeys(t *testing.T) {
	keys := map[string]api.Value{}
	for _, c := range encodedPool() {
		for _, d := range encodedPool() {
			key := encode(t, values(c.v, d.v), directions(false, true))
			if first, ok := keys[key]; ok {
				t.Errorf("%s, %s has the key of %s", show(c.v), show(d.v), show(first))
			}
			keys[key] = list(c.v, d.v)
		}
	}
}

// expectStrict checks what holds for every string: what Decode accepts is a key of what it returns, and bytes behind the first error change nothing.
func expectStrict(t *testing.T, s string, desc []bool) {
	t.Helper()
	l, errno := Decode(s, desc)
	if errno == api.OK {
		if len(l) != len(desc) || encode(t, l, desc) != s {
			t.Errorf("Decode of %s, %s: %s", brief(s), show(desc), show(l))
		}
		return
	}
	if len(l) > 0 {
		t.Errorf("Decode of %s, %s: %s, error %d", brief(s), show(desc), show(l), errno)
	}
	if errno != api.ErrShort {
		expectDecode(t, s+"\x00", desc, nil, errno)
		expectDecode(t, s+"\xff\x02", desc, nil, errno)
	}
}

// P3.5: short strings of bytes that have a meaning.
func TestStrictOnShortStrings(t *testing.T) {
	const bytes = "\x00\x01\x02\x04\x05\x06\x07\x0ba\xf9\xfb\xfd\xfe\xff"
	var grow func(s string)
	grow = func(s string) {
		for _, desc := range [][]bool{{}, {false}, {true}, {false, true}, {true, false}} {
			expectStrict(t, s, desc)
		}
		for i := 0; i < len(bytes) && len(s) < 4; i++ {
			grow(s + bytes[i:i+1])
		}
	}
	grow("")
}

// P3.5: keys of which some bytes are changed, dropped or added.
func TestStrictOnChangedKeys(t *testing.T) {
	r := rand.New(rand.NewPCG(3, 5))
	for range 20000 {
		l, desc := randomList(r)
		b := []byte(encode(t, l, desc))
		for range 1 + r.IntN(3) {
			i := r.IntN(len(b) + 1)
			switch {
			case i == len(b) || r.IntN(3) == 0:
				b = slices.Insert(b, i, byte(r.IntN(12)))
			case r.IntN(2) == 0:
				b = slices.Delete(b, i, i+1)
			default:
				b[i] ^= 1 << r.IntN(8)
			}
		}
		expectStrict(t, string(b), desc)
	}
}

// P3.6: no encoding is a proper prefix of another one with the same direction, and every proper prefix is too short.
func TestNoPrefixes(t *testing.T) {
	pool := encodedPool()
	for _, v := range values(sample.NestedDocs(api.MaxDepth, doc()), sample.Nulls(200), sample.Numbered(100)) {
		pool = append(pool, encoded{v, encode(t, values(v), directions(false))})
	}
	for i, c := range pool {
		for n := range len(c.s) {
			expectDecode(t, c.s[:n], directions(false), nil, api.ErrShort)
			expectDecode(t, inverted(c.s)[:n], directions(true), nil, api.ErrShort)
		}
		for j, d := range pool {
			if i != j && strings.HasPrefix(c.s, d.s) {
				t.Errorf("%s is a prefix of %s", brief(d.s), brief(c.s))
			}
		}
	}
}

// P3.6: the keys of lists that begin with the same values are those from the key of these values on, below After of it.
func TestKeysWithPrefix(t *testing.T) {
	var pool []api.Value
	for i, c := range encodedPool() {
		if i%3 == 0 || c.v.Kind == api.KindNone {
			pool = append(pool, c.v)
		}
	}
	for _, desc := range [][]bool{{false, false}, {false, true}, {true, false}, {true, true}} {
		for _, first := range pool {
			from := encode(t, values(first), desc[:1])
			to, ok := After(from)
			for _, a := range pool {
				for _, b := range pool {
					key := encode(t, values(a, b), desc)
					if got := key >= from && (!ok || key < to); got != value.Equal(a, first) {
						t.Errorf("the key of %s, %s, %s lies in the range of %s: %t", show(a), show(b), show(desc), show(first), got)
					}
				}
			}
		}
	}
	// The keys that begin with no values are all keys; those that begin with all values are one key.
	if _, ok := After(encode(t, nil, nil)); ok {
		t.Error("the range of all keys has an end")
	}
}
