package audit_test

import (
	"fmt"
	"slices"
	"testing"

	"escheat/api"
	"escheat/audit"
	"escheat/state"
)

// P16.1: what there is behind a story, by its words; each kind of event is in it.
func TestReplay(t *testing.T) {
	l := made(t, story()...)
	kinds := map[int]int{}
	for _, e := range story() {
		kinds[e.Kind]++
	}
	if len(kinds) != 14 {
		t.Fatalf("of %d kinds", len(kinds))
	}
	x := likeAll(t, "the story", l)
	want := api.State{
		Clock: 1 << 40,
		Boxes: []api.Box{
			{Name: "INBOX", Valid: 1, Next: 4, Msgs: []api.Msg{{UID: 1, Flags: api.Seen, Date: 9, Body: story()[3].Body}, {UID: 3, Flags: api.Seen | api.Flagged, Date: 9}}},
			{Name: "a", Valid: 2, Next: 4, Msgs: []api.Msg{{UID: 3, Flags: api.Seen | api.Flagged, Date: 9, Body: []byte("x\x00\xff")}}},
			{Name: "d", Valid: 3, Next: 1},
		},
		Subs:  []string{"gone"},
		Rules: []api.Rule{{Box: "a", Keep: 60}, {Box: "gone", Keep: 1 << 40}},
		Tombs: []api.Tomb{
			{ID: 3, Box: "d/d", At: 90, Msg: api.Msg{UID: 1, Flags: api.Seen, Date: 9, Body: []byte("letter")}},
			{ID: 4, Box: "INBOX", At: 1 << 40, Msg: api.Msg{UID: 2, Flags: api.Seen | api.Flagged, Date: 9, Body: []byte("x\x00\xff")}},
		},
		Holds:     []api.Hold{{ID: 2, Box: "z"}, {ID: 3, Box: "INBOX", Set: []api.Range{{From: 9}}}},
		NextValid: 5, NextTomb: 5, NextHold: 4,
	}
	if x.Err != 0 || x.Chain.Count != len(l) || !state.Same(x.State, want) {
		t.Errorf("error %d, %v, %s, not %s", x.Err, x.Chain, told(x.State), told(want))
	}
	if c, f := audit.Verify(l); f != api.OK || c != x.Chain {
		t.Errorf("Verify: %v, error %d, not %v", c, f, x.Chain)
	}
}

// P16.1: the error of the first event that isn't done, whatever is behind it; its records are a chain all the same.
func TestUndone(t *testing.T) {
	met := map[api.Errno]int{}
	for _, x := range allUndone() {
		met[x.want]++
		l := made(t, x.events...)
		n := len(l)
		if y := likeAll(t, x.what+", all ahead", l[:n-1]); y.Err != 0 || y.Chain.Count != n-1 {
			t.Errorf("%s: ahead of it: error %d", x.what, y.Err)
		}
		isUndone(t, x.what, l, x.want)
		isUndone(t, x.what+", and again", behind(t, l, x.events[n-1]), x.want)
		for _, e := range []api.Event{subscribe("q"), create("INBOX"), remove("INBOX"), release(99), at(1<<40, subscribe("q"))} {
			isUndone(t, fmt.Sprintf("%s, kind %d behind it", x.what, e.Kind), behind(t, l, e, subscribe("q")), x.want)
		}
	}
	for _, f := range []api.Errno{api.ErrArg, api.ErrNone, api.ErrThere, api.ErrForm, api.ErrFull, api.ErrHeld} {
		if met[f] == 0 {
			t.Errorf("error %d isn't met", f)
		}
	}
}

// isUndone: Replay answers an error alone; the other calls answer as of any chain.
func isUndone(t *testing.T, what string, l [][]byte, want api.Errno) {
	t.Helper()
	likeAll(t, what, l)
	if s, c, f := audit.Replay(l); f != want || told(s) != told(api.State{}) || c != (api.Chain{}) {
		t.Errorf("%s: error %d, not %d; beside it %s, %v", what, f, want, short(told(s)), c)
	}
	if c, f := audit.Verify(l); f != api.OK || c.Count != len(l) {
		t.Errorf("%s: Verify: %v, error %d", what, c, f)
	}
	if events, f := audit.Events(l); f != api.OK || len(events) != len(l) {
		t.Errorf("%s: Events: %d, error %d", what, len(events), f)
	}
	if n := audit.Place(l); n != len(l) {
		t.Errorf("%s: Place: %d", what, n)
	}
}

// P16.1: that a record doesn't link comes ahead of that an event isn't done, wherever each of them stands.
func TestLinkAheadOfDone(t *testing.T) {
	for _, x := range allUndone() {
		l := behind(t, made(t, x.events...), subscribe("q"), forget("q"))
		for _, place := range []int{0, len(x.events) / 2, len(x.events) - 1, len(x.events), len(l) - 1} {
			for _, y := range wrongAt(t, l, place) {
				other := slices.Clone(l)
				other[place] = y.b
				if s, c, f := audit.Replay(other); f != y.want || told(s) != told(api.State{}) || c != (api.Chain{}) {
					t.Errorf("%s, %s at %d: error %d, not %d", x.what, y.what, place, f, y.want)
				}
			}
		}
		breaks(t, x.what+", doubled", append(slices.Clone(l), l[len(l)-1]), len(l), api.ErrChain)
	}
}

// P16.1: what is answered is one's own: with all records changed it stays; changed itself it doesn't change them, nor the next answer.
func TestOwn(t *testing.T) {
	l := lent(made(t, story()...))
	s, _, f := audit.Replay(l)
	events, g := audit.Events(l)
	if f != api.OK || g != api.OK {
		t.Fatal(f, g)
	}
	before, wantState, wantEvents := toldRoom(l), told(s), told(events)
	spoiled, _, _ := audit.Replay(l)
	gone, _ := audit.Events(l)
	for i := range spoiled.Boxes {
		for j := range spoiled.Boxes[i].Msgs {
			spoilBytes(spoiled.Boxes[i].Msgs[j].Body)
		}
	}
	for i := range gone {
		spoilBytes(gone[i].Body)
		for j := range gone[i].IDs[:cap(gone[i].IDs)] {
			gone[i].IDs[:cap(gone[i].IDs)][j] = -1
		}
	}
	if toldRoom(l) != before || told(s) != wantState || told(events) != wantEvents {
		t.Error("what was answered, changed, changes another thing")
	}
	for _, b := range l {
		spoilBytes(b)
	}
	if told(s) != wantState || told(events) != wantEvents {
		t.Error("what was answered hangs on what was lent")
	}
}

// spoilBytes: each byte is another one, in spare room too.
func spoilBytes(b []byte) {
	for i := range b[:cap(b)] {
		b[:cap(b)][i] ^= 255
	}
}
