package path

import (
	"math/rand/v2"
	"slices"
	"testing"

	"docstore/api"
	"docstore/sample"
)

// expectOthersAsBefore checks the values at all paths that do not overlap p: Get is as before, except that it may be null where it was missing.
func expectOthersAsBefore(t *testing.T, before, after api.Value, p []string) {
	t.Helper()
	for _, other := range everyPath() {
		if Overlap(other, p) {
			continue
		}
		was, is := Get(before, other), Get(after, other)
		if !identical(was, is) && !(was.Kind == api.KindNone && identical(is, null)) {
			t.Fatalf("%q in %s became %s, by Put or Drop at %q: %s", other, show(before), show(after), p, show(is))
		}
	}
}

// P4.12: Get after Put, and Put of the same again.
func TestGetAfterPut(t *testing.T) {
	r := rand.New(rand.NewPCG(4, 12))
	done, refused := 0, 0
	for range 6000 {
		v, x := randomValue(r, 1+r.IntN(5), true), randomValue(r, 3, true)
		p := randomSteps(r)
		after, errno := Put(v, p, x)
		if errno != api.OK {
			refused++
			expectValue(t, "Put with an error", after, missing)
			continue
		}
		done++
		expectGet(t, after, p, x)
		expectOthersAsBefore(t, v, after, p)
		expectPut(t, after, p, x, after, api.OK)
		if slices.ContainsFunc(Reach(after, p), func(reached api.Value) bool { return identical(reached, x) }) {
			continue
		}
		t.Errorf("Reach of %q after Put of %s: %s", p, show(x), show(after))
	}
	if done < 1000 || refused < 1000 {
		t.Errorf("%d values were put, %d were refused", done, refused)
	}
}

// P4.12: Put replaces what Get finds at a valid path.
func TestPutWhereSomethingIs(t *testing.T) {
	r := rand.New(rand.NewPCG(12, 4))
	for range 2000 {
		v := randomValue(r, 5, true)
		for _, p := range everyPath() {
			if v.Kind != api.KindDoc || Get(v, p).Kind == api.KindNone {
				continue
			}
			expectPut(t, v, p, Get(v, p), v, api.OK)
		}
	}
}

// P4.12: Get after Drop, and Drop again.
func TestGetAfterDrop(t *testing.T) {
	r := rand.New(rand.NewPCG(4, 9))
	dropped := 0
	for range 6000 {
		v, p := randomValue(r, 1+r.IntN(5), true), append(randomSteps(r), "0")
		if r.IntN(2) == 0 {
			p[len(p)-1] = "a"
		}
		after := Drop(v, p)
		if got := Get(after, p); got.Kind != api.KindNone && !identical(got, null) {
			t.Errorf("Get of %q after Drop in %s: %s", p, show(v), show(got))
		}
		if Get(v, p).Kind == api.KindNone {
			expectValue(t, "Drop of nothing", after, v)
		} else {
			dropped++
		}
		expectOthersAsBefore(t, v, after, p)
		expectDrop(t, after, p, after)
	}
	if dropped < 500 {
		t.Errorf("only %d values were dropped", dropped)
	}
}

// P4.13: where no list is, Reach has one element, which is that of Get.
func TestReachWithoutLists(t *testing.T) {
	r := rand.New(rand.NewPCG(4, 13))
	for range 10000 {
		v, p := randomValue(r, 1+r.IntN(6), false), randomSteps(r)
		expectReach(t, v, p, []api.Value{Get(v, p)}, []api.Value{Get(v, p)})
	}
	v := sample.NestedDocs(20, val("{a: 1, b: null}"))
	for n := range 22 {
		p := slices.Repeat([]string{"a"}, n)
		expectReach(t, v, p, []api.Value{Get(v, p)}, []api.Value{Get(v, p)})
	}
}
