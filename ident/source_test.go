package ident

import (
	"math"
	"testing"

	"docstore/api"
	"docstore/sample"
)

func newSource(t *testing.T, node int) *Source {
	t.Helper()
	s, errno := NewSource(node)
	if s == nil || errno != api.OK {
		t.Fatalf("NewSource of %d: %v, error %d", node, s, errno)
	}
	return s
}

// sourceAt returns a source that has generated as many identifiers as its counter says.
func sourceAt(t *testing.T, node, counter int) *Source {
	t.Helper()
	s := newSource(t, node)
	s.counter = counter
	return s
}

func expectNext(t *testing.T, s *Source, seconds int, want triple) {
	t.Helper()
	if v, errno := s.Next(seconds); sample.Show(v) != sample.Show(made(t, want)) || errno != api.OK {
		t.Errorf("Next of %d: %s, error %d; expected the identifier of %d", seconds, sample.Show(v), errno, want)
	}
}

// expectNoNext checks that Next returns an error and no value.
func expectNoNext(t *testing.T, s *Source, seconds int, want api.Errno) {
	t.Helper()
	if v, errno := s.Next(seconds); sample.Show(v) != sample.Show(api.Value{}) || errno != want {
		t.Errorf("Next of %d: %s, error %d; expected error %d", seconds, sample.Show(v), errno, want)
	}
}

// P6.5: nodes of every size, and the counter 0.
func TestNewSource(t *testing.T) {
	for _, node := range inRange() {
		expectNext(t, newSource(t, node), 9, triple{9, node, 0})
	}
	for _, node := range outOfRange() {
		if s, errno := NewSource(node); s != nil || errno != api.ErrArg {
			t.Errorf("NewSource of %d: %v, error %d; expected error %d", node, s, errno, api.ErrArg)
		}
	}
}

// P6.6: the example of the document.
func TestNextExample(t *testing.T) {
	s := newSource(t, 7)
	expectNext(t, s, 9, triple{9, 7, 0})
	expectNoNext(t, s, -1, api.ErrArg)
	expectNext(t, s, 9, triple{9, 7, 1})
}

// P6.6: times of every size, which may repeat, ascend and descend; the counter increases by 1 each time.
func TestNextTimes(t *testing.T) {
	for _, node := range []int{0, 7, math.MaxUint32} {
		s := newSource(t, node)
		counter := 0
		for _, seconds := range inRange() {
			for _, again := range []int{seconds, seconds, 0, math.MaxUint32, seconds} {
				expectNext(t, s, again, triple{again, node, counter})
				counter++
			}
		}
	}
}

// P6.6: a time out of its range, after which the counter is as before.
func TestNextErrArg(t *testing.T) {
	s := newSource(t, 3)
	for i, seconds := range outOfRange() {
		expectNoNext(t, s, seconds, api.ErrArg)
		expectNoNext(t, s, seconds, api.ErrArg)
		expectNext(t, s, i, triple{i, 3, i})
	}
}

// P6.6: the last counters, and the limit behind them.
func TestNextErrLimit(t *testing.T) {
	s := sourceAt(t, 5, math.MaxUint32-1)
	expectNext(t, s, 0, triple{0, 5, math.MaxUint32 - 1})
	expectNoNext(t, s, -1, api.ErrArg)
	expectNext(t, s, math.MaxUint32, triple{math.MaxUint32, 5, math.MaxUint32})
	for _, seconds := range inRange() {
		expectNoNext(t, s, seconds, api.ErrLimit)
	}
	if s.counter != 1<<32 || s.node != 5 {
		t.Errorf("at the limit the source became %+v", *s)
	}
}

// P6.6: the counter has any number of bytes.
func TestNextCounters(t *testing.T) {
	for _, counter := range inRange() {
		s := sourceAt(t, 0x01020304, counter)
		expectNext(t, s, 0x05060708, triple{0x05060708, 0x01020304, counter})
		if s.counter != counter+1 {
			t.Errorf("the counter %d became %d", counter, s.counter)
		}
	}
}

// P6.6: ErrNil before ErrArg, and ErrArg before ErrLimit.
func TestNextErrorOrder(t *testing.T) {
	var none *Source
	for _, seconds := range append(inRange(), outOfRange()...) {
		expectNoNext(t, none, seconds, api.ErrNil)
	}
	s := sourceAt(t, 5, math.MaxUint32+1)
	for _, seconds := range outOfRange() {
		expectNoNext(t, s, seconds, api.ErrArg)
		expectNoNext(t, s, 1, api.ErrLimit)
	}
	if s.counter != math.MaxUint32+1 {
		t.Errorf("an error changed the counter to %d", s.counter)
	}
}

// P6.5, P6.6: sources do not touch one another, also those of one node.
func TestSourcesAreSeparate(t *testing.T) {
	a, b, same := newSource(t, 1), newSource(t, 2), newSource(t, 1)
	for i := range 5 {
		expectNext(t, a, i, triple{i, 1, 2 * i})
		expectNext(t, b, 9, triple{9, 2, i})
		expectNoNext(t, b, -1, api.ErrArg)
		expectNext(t, a, i, triple{i, 1, 2*i + 1})
	}
	expectNext(t, same, 4, triple{4, 1, 0})
	expectNext(t, newSource(t, 2), 4, triple{4, 2, 0})
	expectNoNext(t, sourceAt(t, 1, math.MaxUint32+1), 0, api.ErrLimit)
	expectNext(t, a, 4, triple{4, 1, 10})
	expectNext(t, same, 4, triple{4, 1, 1})
}
