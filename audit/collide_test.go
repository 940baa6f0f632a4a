package audit_test

import (
	"bytes"
	"fmt"
	"slices"
	"testing"

	"escheat/api"
	"escheat/audit"
	"escheat/event"
)

// shownNothing: Collide shows nothing, whichever of two lists is first.
func shownNothing(t *testing.T, what string, a, b [][]byte) {
	t.Helper()
	for _, x := range []pair{likeCollide(t, what, a, b), likeCollide(t, what, b, a)} {
		if x.OK || len(x.A) != 0 || len(x.B) != 0 {
			t.Errorf("%s: %x, %x, %t", what, x.A, x.B, x.OK)
		}
	}
}

// P16.1: nothing is shown of what are the same, of chains of unlike Heads, and where one has no record.
func TestShowsNothing(t *testing.T) {
	events := story()
	l := made(t, events...)
	other := made(t, append([]api.Event{create("b")}, events[1:]...)...)
	for i := range len(l) + 1 {
		shownNothing(t, "the same", l[:i], slices.Clone(l[:i]))
		shownNothing(t, "one of no record", l[:i], nil)
		for j := range len(l) + 1 {
			shownNothing(t, fmt.Sprint("the first ", i, " and ", j), l[:i], l[:j])
			shownNothing(t, fmt.Sprint("the first ", i, ", and ", j, " of another one"), l[:i], other[:j])
		}
	}
	shownNothing(t, "none", nil, [][]byte{})
}

// P16.1: nothing is shown where one of two lists, or both, are no chains, whether their last records are the same or not.
func TestShowsNoWrong(t *testing.T) {
	l := made(t, story()[:6]...)
	last := len(l) - 1
	for place := range l {
		for _, x := range wrongAt(t, l, place) {
			other := slices.Clone(l)
			other[place] = x.b
			shownNothing(t, x.what+", beside a chain", other, l)
			shownNothing(t, x.what+", beside a shorter chain", other, l[:last])
			shownNothing(t, x.what+", beside no record", other, nil)
			shownNothing(t, x.what+", twice", other, slices.Clone(other))
			for _, y := range wrongAt(t, l, place)[:3] {
				third := slices.Clone(l)
				third[place] = y.b
				shownNothing(t, x.what+", beside "+y.what, other, third)
			}
		}
	}
	shownNothing(t, "without the first one", l[1:], l)
	shownNothing(t, "the last one alone", l[last:], l)
	shownNothing(t, "records of no bytes", [][]byte{nil}, [][]byte{{}})
	shownNothing(t, "a record of no bytes, and one of some", [][]byte{nil}, [][]byte{{1}})
}

// oneStory: chains of one Head are the same records, or two unlike byte strings of one sum are shown.
func oneStory(t *testing.T, a, b [][]byte) {
	t.Helper()
	x, f := audit.Verify(a)
	y, g := audit.Verify(b)
	if f != api.OK || g != api.OK || len(a) == 0 || len(b) == 0 {
		t.Fatalf("no chains: %x, %x", a, b)
	}
	p, q, ok := audit.Collide(a, b)
	switch {
	case x.Head != y.Head && ok:
		t.Errorf("unlike Heads, and %x, %x", p, q)
	case x.Head == y.Head && !ok && !same(a, b):
		t.Errorf("one Head, and unlike records: %x, %x", a, b)
	case ok && (bytes.Equal(p, q) || headAt([][]byte{p}, 1) != headAt([][]byte{q}, 1)):
		t.Errorf("shown, and not unlike, or not of one sum: %x, %x", p, q)
	case !ok && same(a, b) != (x.Head == y.Head):
		t.Errorf("the same: %t, of one Head: %t: %x, %x", same(a, b), x.Head == y.Head, a, b)
	}
}

// P16.2: all two chains of up to four of three events.
func TestSmallStories(t *testing.T) {
	all, last := [][][]byte{}, [][][]byte{nil}
	for range 4 {
		longer := [][][]byte{}
		for _, l := range last {
			for _, e := range []api.Event{subscribe("a"), subscribe("b"), at(1, subscribe("a"))} {
				longer = append(longer, behind(t, l, e))
			}
		}
		last = longer
		all = append(all, longer...)
	}
	if len(all) != 3+9+27+81 {
		t.Fatal(len(all))
	}
	for _, a := range all {
		for _, b := range all {
			oneStory(t, a, b)
		}
	}
}

// P16.2: where an event of a chain is another one, and all behind it is made anew, the Heads are unlike; so where one is left out, or more.
func TestOtherEvent(t *testing.T) {
	events := story()
	l := made(t, events...)
	for i, e := range events {
		late, other := e, events[(i+1)%len(events)]
		late.At = (e.At + 1) % (1 << 40)
		if event.Same(e, other) {
			t.Fatalf("%d is as the next one", i)
		}
		for what, one := range map[string][]api.Event{"another time": {late}, "another event": {other}, "none": nil, "twice": {e, e}} {
			m := made(t, slices.Concat(events[:i], one, events[i+1:])...)
			x, _ := audit.Verify(l)
			y, _ := audit.Verify(m)
			if x.Head == y.Head || same(l, m) {
				t.Errorf("%s at %d: one Head", what, i)
			}
			oneStory(t, l, m)
		}
	}
}

// P16.2: each byte of a chain as another one: it is no chain any more, or one of another Head.
func TestOtherByte(t *testing.T) {
	l := made(t, at(1, create("a")), at(5, bring("a", "xyz")), at(6, expunge("a", 1)), at(7, hold("a", api.Range{From: 1})))
	want, _ := audit.Verify(l)
	for i, b := range l {
		for at := range b {
			for _, turn := range []byte{1, 2, 4, 8, 16, 32, 64, 128, 255} {
				other := slices.Clone(l)
				other[i] = slices.Clone(b)
				other[i][at] ^= turn
				c, f := audit.Verify(other)
				switch {
				case f == api.OK && c.Head == want.Head:
					t.Errorf("byte %d of %d: one Head", at, i)
				case f == api.OK && i+1 < len(l):
					t.Errorf("byte %d of %d: those behind it link", at, i)
				case f == api.OK:
					oneStory(t, l, other)
				case audit.Place(other) > i+1 || audit.Place(other) < i:
					t.Errorf("byte %d of %d: place %d", at, i, audit.Place(other))
				}
			}
		}
	}
}
