package state_test

import (
	"fmt"
	"math/rand"
	"slices"
	"testing"

	"escheat/api"
	"escheat/state"
)

// places: mailboxes that are there by chance.
var places = []string{"INBOX", "a", "a/b", "a/b/c", "ab", "b", "b/a", "INBOX/x", "m01", "n02", "gone", "z"}

func anyOf[T any](r *rand.Rand, l []T) T { return l[r.Intn(len(l))] }

// someIDs: rising ones of those that there are, and once in a while one more.
func someIDs(r *rand.Rand, there []int) []int {
	ids := []int{}
	for _, id := range there {
		if r.Intn(2) == 0 {
			ids = append(ids, id)
		}
	}
	if len(ids) == 0 || r.Intn(8) == 0 {
		ids = append(ids, 1+r.Intn(70))
	}
	slices.Sort(ids)
	return slices.Compact(ids)
}

// someEvent is mostly of what is there.
func someEvent(r *rand.Rand, s api.State) api.Event {
	e := api.Event{Kind: 1 + r.Intn(14), At: max(0, s.Clock+r.Intn(12)-3)}
	b := anyOf(r, s.Boxes)
	name := anyOf(r, places)
	if r.Intn(3) > 0 {
		name = b.Name
	}
	uids, tombs := []int{}, []int{}
	for _, m := range b.Msgs {
		uids = append(uids, m.UID)
	}
	for _, x := range s.Tombs {
		tombs = append(tombs, x.ID)
	}
	switch e.Kind {
	case api.EvCreate, api.EvDelete, api.EvSubscribe, api.EvForget:
		e.Box = name
		if r.Intn(2) == 0 {
			e.Box = anyOf(r, places)
		}
	case api.EvRename:
		e.Box, e.To = anyOf(r, []string{name, name, "m01", "a"}), anyOf(r, append([]string{"q/q/q/q", "q/q/q/q"}, places...))
	case api.EvAppend:
		e.Box, e.Flags, e.Date, e.Body = name, r.Intn(32), r.Intn(99), fmt.Appendf(nil, "%d", r.Intn(1000))
	case api.EvStore:
		e.Box, e.IDs, e.Mode, e.Flags = name, someIDs(r, uids), r.Intn(3), r.Intn(32)
	case api.EvCopy:
		e.Box, e.To, e.IDs = name, anyOf(r, places), someIDs(r, uids)
	case api.EvExpunge:
		e.Box, e.IDs = name, someIDs(r, uids)
	case api.EvRestore:
		e.N = anyOf(r, append(tombs, r.Intn(70)))
	case api.EvRule:
		e.Box, e.N = name, r.Intn(3)*r.Intn(20)
	case api.EvHold:
		e.Box = name
		if r.Intn(3) > 0 {
			e.Set = ends(r.Intn(12), r.Intn(12))
		}
	case api.EvRelease:
		e.N = r.Intn(s.NextHold % 100)
	case api.EvPurge:
		e.IDs = someIDs(r, tombs)
		if r.Intn(2) == 0 {
			e.IDs = e.IDs[:1]
		}
	}
	return e
}

// given is a number that was given: of a message, by its mailbox' Valid, since its name may change.
type given struct{ valid, uid int }

// placed is a message, and the mailbox that it is in.
type placed struct {
	box string
	msg api.Msg
}

func allOf(s api.State) map[given]placed {
	all := map[given]placed{}
	for _, b := range s.Boxes {
		for _, m := range b.Msgs {
			all[given{b.Valid, m.UID}] = placed{b.Name, m}
		}
	}
	return all
}

// letter: what of a message isn't its number.
func letter(m api.Msg) string { return fmt.Sprintf("%d %d %q", m.Flags, m.Date, m.Body) }

// tombsIn: by their IDs.
func tombsIn(s api.State) map[int]api.Tomb {
	all := map[int]api.Tomb{}
	for _, x := range s.Tombs {
		all[x.ID] = x
	}
	return all
}

// leaves: each message that isn't in its mailbox any more is a tomb, as it was; each tomb that is new was one.
func leaves(t *testing.T, s, after api.State, e api.Event) {
	t.Helper()
	fresh := map[string]bool{}
	for id, x := range tombsIn(after) {
		old, was := tombsIn(s)[id]
		switch {
		case was && told(old) != told(x):
			t.Errorf("tomb %d is another one: %s", id, told(x))
		case !was && (id < s.NextTomb || x.At != after.Clock):
			t.Errorf("a new tomb: %s", told(x))
		case !was:
			fresh[fmt.Sprintf("%s %d %s", x.Box, x.Msg.UID, letter(x.Msg))] = true
		}
	}
	still := allOf(after)
	for k, p := range allOf(s) {
		now, stays := still[k]
		text := fmt.Sprintf("%s %d %s", p.box, k.uid, letter(p.msg))
		switch {
		case stays && e.Kind == api.EvStore:
			now.msg.Flags = p.msg.Flags
		case !stays && !fresh[text]:
			t.Errorf("kind %d: %s is lost", e.Kind, text)
		case !stays && e.Kind != api.EvDelete && e.Kind != api.EvExpunge:
			t.Errorf("kind %d: %s has left", e.Kind, text)
		}
		if stays && letter(now.msg) != letter(p.msg) {
			t.Errorf("kind %d: %s is another one: %s", e.Kind, text, letter(now.msg))
		}
		if !stays {
			delete(fresh, text)
		}
	}
	for text := range fresh {
		t.Errorf("kind %d: %s was no message", e.Kind, text)
	}
}

// goes: each tomb that is gone was purged when it might go, or is a message again, of a number above all that its mailbox has given.
func goes(t *testing.T, s, after api.State, e api.Event) {
	t.Helper()
	for id, x := range tombsIn(s) {
		if _, stays := tombsIn(after)[id]; stays {
			continue
		}
		switch {
		case e.Kind == api.EvPurge && slices.Contains(e.IDs, id):
			if w := unfold(s); w.isHeld(x) || after.Clock < x.At+w.rules[x.Box] {
				t.Errorf("tomb %s has gone at %d", told(x), after.Clock)
			}
		case e.Kind == api.EvRestore && e.N == id:
			b := unfold(s).boxes[x.Box]
			m, ok := allOf(after)[given{b.Valid, b.Next}]
			if !ok || m.box != x.Box || letter(m.msg) != letter(x.Msg) {
				t.Errorf("tomb %s is no message again: %s", told(x), told(m.msg))
			}
		default:
			t.Errorf("tomb %s has gone by kind %d", told(x), e.Kind)
		}
	}
}

// comes: each message that is new is by an event that brings some, and of a number that wasn't given yet.
func comes(t *testing.T, s, after api.State, e api.Event, ever map[given]bool) {
	t.Helper()
	was := allOf(s)
	n := 0
	for k := range allOf(after) {
		if _, ok := was[k]; ok {
			continue
		}
		if n++; ever[k] {
			t.Errorf("%d of %d is given twice", k.uid, k.valid)
		}
		ever[k] = true
	}
	want := map[int]int{api.EvAppend: 1, api.EvRestore: 1, api.EvCopy: len(e.IDs)}[e.Kind]
	if n != want {
		t.Errorf("kind %d brings %d messages, not %d", e.Kind, n, want)
	}
}

// P14.2: over runs of events from the first state on: nothing is lost, and nothing goes too early.
func TestNothingLost(t *testing.T) {
	kinds := map[int]int{}
	for seed := range 25 {
		r := rand.New(rand.NewSource(int64(1420 + seed)))
		s := state.New()
		ever := map[given]bool{}
		for range 400 {
			e := someEvent(r, s)
			after, f := likeApply(t, s, e)
			if t.Failed() {
				t.Fatalf("seed %d, event %s", seed, told(e))
			}
			if f != api.OK {
				continue
			}
			kinds[e.Kind]++
			leaves(t, s, after, e)
			goes(t, s, after, e)
			comes(t, s, after, e, ever)
			s = after
		}
	}
	for kind := 1; kind <= 14; kind++ {
		if kinds[kind] < 50 {
			t.Errorf("kind %d was done %d times", kind, kinds[kind])
		}
	}
}

// edge: a state near all of its bounds.
func edge(r *rand.Rand) api.State {
	less := func() int { return r.Intn(2) }
	s := api.State{
		Clock: 50, Boxes: boxesOf(16 - less()), Subs: namesOf(16 - less()), Rules: rulesOf(16 - less()), Holds: holdsOf(16 - less()),
		Tombs: tombsOf(60-r.Intn(3), anyOf(r, []string{"m01", "m01", "gone", "n02", "h"})), NextValid: 30, NextTomb: 70, NextHold: 40,
	}
	for i := range s.Boxes {
		n := 40 - r.Intn(3)
		if i > 2 {
			n = r.Intn(4)
		}
		s.Boxes[i].Msgs, s.Boxes[i].Next = msgs(upTo(n)...), anyOf(r, []int{n + 1, 50, top, top + 1})
	}
	for _, next := range []*int{&s.NextValid, &s.NextTomb, &s.NextHold} {
		if less() == 0 {
			*next = top + r.Intn(2)
		}
	}
	if less() == 0 {
		s.Boxes[len(s.Boxes)-1].Name, s.Boxes[len(s.Boxes)-2].Name = "m01/y", "m01/x"
		slices.SortFunc(s.Boxes, func(a, b api.Box) int { return slices.Compare([]byte(a.Name), []byte(b.Name)) })
	}
	return s
}

// P14.1: short runs from states near all of their bounds; each kind meets each of its errors.
func TestEdgeRuns(t *testing.T) {
	type met struct {
		kind int
		e    api.Errno
	}
	all := map[met]int{}
	r := rand.New(rand.NewSource(1419))
	for range 120 {
		s := edge(r)
		for range 25 {
			e := someEvent(r, s)
			after, f := likeApply(t, s, e)
			if t.Failed() {
				t.Fatalf("event %s", told(e))
			}
			all[met{e.Kind, f}]++
			s = after
		}
	}
	for kind, errs := range [][]api.Errno{
		api.EvCreate: {api.ErrThere, api.ErrFull, api.ErrUsed}, api.EvDelete: {api.ErrNone, api.ErrArg, api.ErrFull, api.ErrUsed}, api.EvRename: {api.ErrNone, api.ErrArg, api.ErrForm, api.ErrThere},
		api.EvSubscribe: {api.ErrThere, api.ErrFull}, api.EvForget: {api.ErrNone}, api.EvAppend: {api.ErrNone, api.ErrUsed, api.ErrFull}, api.EvStore: {api.ErrNone}, api.EvCopy: {api.ErrNone, api.ErrUsed, api.ErrFull},
		api.EvExpunge: {api.ErrNone, api.ErrFull, api.ErrUsed}, api.EvRestore: {api.ErrNone, api.ErrUsed, api.ErrFull}, api.EvRule: {api.ErrFull}, api.EvHold: {api.ErrFull, api.ErrUsed}, api.EvRelease: {api.ErrNone}, api.EvPurge: {api.ErrNone, api.ErrHeld},
	} {
		if kind == 0 {
			continue
		}
		for _, f := range append(errs, api.OK) {
			if all[met{kind, f}] == 0 {
				t.Errorf("kind %d never met %d", kind, f)
			}
		}
	}
}
