package value

import (
	"math"
	"math/rand/v2"
	"slices"
	"testing"

	"docstore/api"
	"docstore/sample"
)

func expectCompare(t *testing.T, a, b api.Value, want int) {
	t.Helper()
	if got := Compare(a, b); got != want {
		t.Errorf("Compare(%s, %s): %d; expected %d", show(a), show(b), got, want)
	}
	if got := Equal(a, b); got != (want == 0) {
		t.Errorf("Equal(%s, %s): %t", show(a), show(b), got)
	}
}

// expectChain checks that each value is less than all later ones, and equal to itself.
func expectChain(t *testing.T, l []api.Value) {
	t.Helper()
	for i, a := range l {
		expectCompare(t, a, a, 0)
		for _, b := range l[i+1:] {
			expectCompare(t, a, b, -1)
			expectCompare(t, b, a, 1)
		}
	}
}

// P1.4: values of different kinds are ordered by their kinds, also if these are not listed.
func TestCompareKinds(t *testing.T) {
	expectChain(t, []api.Value{
		{Kind: math.MinInt}, {Kind: -5}, {Kind: -1}, {},
		least, null, num(math.MaxInt), text("\U0010ffff"), doc(field("z", greatest)), list(greatest), octets("\xff"),
		id("\xff\xff\xff\xff\xff\xff\xff\xff\xff\xff\xff\xff"), boolean(1), instant(0), greatest,
		{Kind: 12}, {Kind: 13}, {Kind: math.MaxInt},
	})
	expectCompare(t, num(5), text(""), -1)
}

// P1.4: values of the same kind.
func TestCompareWithinKinds(t *testing.T) {
	expectChain(t, []api.Value{num(math.MinInt), num(-256), num(-1), num(0), num(1), num(255), num(256), num(math.MaxInt)})
	expectChain(t, []api.Value{boolean(-1), boolean(0), boolean(1), boolean(2)})
	expectChain(t, []api.Value{instant(math.MinInt), instant(-1), instant(0), instant(1), instant(math.MaxInt)})
	for _, of := range []func(string) api.Value{text, octets, id} {
		expectChain(t, []api.Value{
			of(""), of("\x00"), of("\x00\x00"), of("\x00\xff"), of("A"), of("a"), of("a\x00"), of("aa"), of("ab"), of("b"),
			of("\x7f"), of("\x80"), of("\u00e9"), of("\uffff"), of("\U00010000"), of("\xff"),
		})
	}
}

// P1.4: lists by the first elements that are not equal, then by length.
func TestCompareLists(t *testing.T) {
	expectChain(t, []api.Value{
		list(), list(least), list(null), list(null, null), list(num(1)), list(num(1), null), list(num(1), num(2)), list(num(1), num(2), num(0)),
		list(num(1), num(3)), list(num(2)), list(text("")), list(doc()), list(list()), list(list(), list()), list(list(null)), list(greatest),
	})
	expectCompare(t, list(num(1), num(2)), list(num(1)), 1)
	expectCompare(t, api.Value{Kind: api.KindList}, api.Value{Kind: api.KindList, List: []api.Value{}}, 0)
}

// P1.4: at each position of two documents the names come before the values, and both before the number of fields.
func TestCompareDocuments(t *testing.T) {
	one, two := num(1), num(2)
	expectChain(t, []api.Value{
		doc(), doc(field("", one)), doc(field("$", one)), doc(field("A", two)), doc(field("a", one)),
		doc(field("a", one), field("a", one)), doc(field("a", one), field("b", one)), doc(field("a", one), field("b", two)),
		doc(field("a", one), field("b", two), field("a", null)), doc(field("a", one), field("c", null)),
		doc(field("a", two)), doc(field("a", two), field("a", one)), doc(field("aa", one)), doc(field("b", one)), doc(field("b", doc())),
		doc(field("b", doc(field("a", one)))), doc(field("b", doc(field("a", two)))), doc(field("\xff", null)),
	})
	expectCompare(t, doc(field("a", two)), doc(field("b", one)), -1)
	expectCompare(t, api.Value{Kind: api.KindDoc}, api.Value{Kind: api.KindDoc, Doc: []api.Field{}}, 0)
}

// P1.4, P1.5: fields of the struct that the kind does not use have no influence.
func TestCompareUnusedFields(t *testing.T) {
	for _, v := range fullPool() {
		w := v
		if v.Kind != api.KindInt && v.Kind != api.KindBool && v.Kind != api.KindTime {
			w.Int = v.Int + 1
		}
		if v.Kind != api.KindText && v.Kind != api.KindBytes && v.Kind != api.KindID {
			w.Text = v.Text + "x"
		}
		if v.Kind != api.KindList {
			w.List = append([]api.Value{num(1)}, v.List...)
		}
		if v.Kind != api.KindDoc {
			w.Doc = append([]api.Field{field("z", null)}, v.Doc...)
		}
		expectCompare(t, v, w, 0)
		expectCompare(t, w, v, 0)
		expectCompare(t, list(v, num(1)), list(w, num(2)), -1)
		expectCompare(t, doc(field("a", w)), doc(field("a", v)), 0)
	}
	expectCompare(t, null, api.Value{Kind: api.KindNull, Int: 3}, 0)
}

// P1.4: the comparison goes through all levels.
func TestCompareDeepValues(t *testing.T) {
	for _, levels := range []int{2, api.MaxDepth + 1, 1 << 16} {
		expectCompare(t, sample.NestedLists(levels, list()), sample.NestedLists(levels, list()), 0)
		expectCompare(t, sample.NestedLists(levels, list()), sample.NestedLists(levels+1, list()), -1)
		expectCompare(t, sample.NestedDocs(levels+1, doc()), sample.NestedDocs(levels, doc()), 1)
	}
	long := sample.Nulls(100000).List
	other := append(slices.Clone(long[1:]), num(1))
	expectCompare(t, list(long...), list(other...), -1)
}

// P1.5.
func TestEqual(t *testing.T) {
	for _, c := range []struct {
		a, b api.Value
		want bool
	}{
		{null, api.Value{Kind: api.KindNull, Int: 3}, true},
		{api.Value{}, api.Value{Text: "x"}, true},
		{num(1), num(1), true},
		{num(1), num(2), false},
		{num(1), boolean(1), false},
		{text("a"), octets("a"), false},
		{list(), doc(), false},
		{doc(field("a", num(1)), field("b", num(2))), doc(field("b", num(2)), field("a", num(1))), false},
		{doc(field("a", list(num(1)))), doc(field("a", list(num(1)))), true},
		{doc(field("a", list(num(1)))), doc(field("a", list(num(1), num(1)))), false},
	} {
		if got := Equal(c.a, c.b); got != c.want {
			t.Errorf("Equal(%s, %s): %t; expected %t", show(c.a), show(c.b), got, c.want)
		}
	}
}

// P1.10: the order is total.
func TestCompareIsTotal(t *testing.T) {
	pool := fullPool()
	r := rand.New(rand.NewPCG(3, 3))
	for range 80 {
		pool = append(pool, randomValue(r, 3))
	}
	for _, a := range pool {
		for _, b := range pool {
			ab := Compare(a, b)
			if ab < -1 || ab > 1 || Compare(b, a) != -ab || Equal(a, b) != (ab == 0) {
				t.Fatalf("Compare(%s, %s): %d, and %d the other way", show(a), show(b), ab, Compare(b, a))
			}
			if ab > 0 {
				continue
			}
			for _, c := range pool {
				if Compare(b, c) <= 0 && Compare(a, c) > 0 {
					t.Fatalf("not transitive: %s, %s, %s", show(a), show(b), show(c))
				}
			}
		}
	}
}

// P1.10: of two valid values, Compare is 0 exactly if they are identical.
func TestCompareIsIdentityOfValidValues(t *testing.T) {
	pool := validPool()
	r := rand.New(rand.NewPCG(4, 4))
	for range 20000 {
		if v := randomValue(r, 3); Valid(v) {
			pool = append(pool, v)
		}
		if len(pool) == 500 {
			break
		}
	}
	for _, a := range pool {
		for _, b := range pool {
			if (Compare(a, b) == 0) != identical(a, b) {
				t.Fatalf("Compare(%s, %s): %d", show(a), show(b), Compare(a, b))
			}
		}
	}
}

// P1.9.
func TestSort(t *testing.T) {
	for _, c := range []struct{ l, want []api.Value }{
		{nil, nil},
		{[]api.Value{}, nil},
		{[]api.Value{num(1)}, []api.Value{num(1)}},
		{[]api.Value{text("a"), num(2), null, num(1)}, []api.Value{null, num(1), num(2), text("a")}},
		{[]api.Value{num(2), num(1), num(2), num(1)}, []api.Value{num(1), num(1), num(2), num(2)}},
		{
			[]api.Value{list(num(2)), {}, {Kind: 12}, list(num(1), num(9)), {Kind: -1}, text("\xff"), list(num(1))},
			[]api.Value{{Kind: -1}, {}, text("\xff"), list(num(1)), list(num(1), num(9)), list(num(2)), {Kind: 12}},
		},
	} {
		before := showAll(c.l)
		if got := Sort(c.l); showAll(got) != showAll(c.want) {
			t.Errorf("Sort of %s: %s; expected %s", showAll(c.l), showAll(got), showAll(c.want))
		}
		if showAll(c.l) != before {
			t.Errorf("Sort changed its argument %s to %s", before, showAll(c.l))
		}
	}
}

// P1.9: values that are equal keep their order. The field that their kind does not use tells them apart.
func TestSortIsStable(t *testing.T) {
	for _, n := range []int{2, 10, 13, 100, 5000} {
		var l []api.Value
		for i := range n {
			switch i % 4 {
			case 0:
				l = append(l, api.Value{Kind: api.KindNull, Int: i})
			case 1:
				l = append(l, api.Value{Kind: api.KindText, Text: "same", Int: i})
			case 2:
				l = append(l, list(api.Value{Kind: api.KindMin, Int: i}))
			case 3:
				l = append(l, api.Value{Kind: api.KindInt, Int: -i})
			}
		}
		expectStable(t, l, Sort(l))
		slices.Reverse(l)
		expectStable(t, l, Sort(l))
	}
}

// expectStable compares with a sort by insertion behind the last value that is not greater.
func expectStable(t *testing.T, l, got []api.Value) {
	t.Helper()
	var want []api.Value
	for _, v := range l {
		at := len(want)
		for at > 0 && Compare(want[at-1], v) > 0 {
			at--
		}
		want = slices.Insert(want, at, v)
	}
	if showAll(got) != showAll(want) {
		t.Errorf("Sort of %d values is not the stable order", len(l))
	}
}

// P1.9: the result is ascending and contains each value as often as the argument.
func TestSortIsPermutation(t *testing.T) {
	r := rand.New(rand.NewPCG(5, 5))
	for range 300 {
		var l []api.Value
		for range r.IntN(40) {
			l = append(l, randomValue(r, 3))
		}
		expectStable(t, l, Sort(l))
	}
}
