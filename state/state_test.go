package state_test

import (
	"fmt"
	"reflect"
	"testing"

	"escheat/api"
	"escheat/state"
)

// done: what an event that is done makes of a state.
func done(t *testing.T, s api.State, l ...api.Event) api.State {
	t.Helper()
	for _, e := range l {
		after, f := likeApply(t, s, e)
		if f != api.OK {
			t.Errorf("event %.200s: error %d", told(e), f)
		}
		s = after
	}
	return s
}

// refused: the error of an event; likeApply asks whether the state stays as it is.
func refused(t *testing.T, s api.State, want api.Errno, l ...api.Event) {
	t.Helper()
	for _, e := range l {
		if _, f := likeApply(t, s, e); f != want {
			t.Errorf("event %.200s: error %d, not %d", told(e), f, want)
		}
	}
}

// isTold: is a state told as another one is?
func isTold(t *testing.T, what string, got, want api.State) {
	t.Helper()
	if told(got) != told(want) {
		t.Errorf("%s: %s, not %s", what, short(told(got)), short(told(want)))
	}
}

// P14.1: the first state may be, and is new memory.
func TestNew(t *testing.T) {
	s := state.New()
	isTold(t, "New", s, first())
	if !likeRight(t, s) {
		t.Error("the first state may not be")
	}
	s.Boxes[0].Name = "spoiled"
	isTold(t, "New behind another one", state.New(), first())
	if !apart(state.New(), state.New()) {
		t.Error("New: memory is shared")
	}
}

// P14.1, P14.2: the chapter's examples.
func TestExamples(t *testing.T) {
	s := done(t, state.New(), at(10, bring("INBOX", 9, 77, "one")), at(20, expunge("INBOX", 1)))
	want := api.Tomb{ID: 1, Box: "INBOX", At: 20, Msg: api.Msg{UID: 1, Flags: 9, Date: 77, Body: []byte("one")}}
	if len(s.Tombs) != 1 || told(s.Tombs[0]) != told(want) || len(s.Boxes[0].Msgs) != 0 || s.Clock != 20 || s.NextTomb != 2 {
		t.Errorf("a message that was expunged: %s", told(s))
	}
	s = done(t, s, at(30, keep("INBOX", 60)))
	for _, n := range []int{0, 30, 79} {
		refused(t, s, api.ErrHeld, at(n, purge(1)))
	}
	s = done(t, s, at(80, purge(1)))
	if len(s.Tombs) != 0 || s.NextTomb != 2 {
		t.Errorf("a tomb that was purged: %s", told(s))
	}
}

// found: what Box, or Tomb, answers.
type found[T any] struct {
	Thing T
	OK    int
}

func asFound[T any](thing T, ok bool) found[T] {
	f := found[T]{Thing: thing}
	if ok {
		f.OK = 1
	}
	return f
}

// likeBox: the first mailbox of a name, as going through from behind ends with; new memory.
func likeBox(t *testing.T, s api.State, name string) (api.Box, bool) {
	t.Helper()
	want := found[api.Box]{}
	for i := len(s.Boxes) - 1; i >= 0; i-- {
		if s.Boxes[i].Name == name {
			want = found[api.Box]{s.Boxes[i], 1}
		}
	}
	y := lent(s)
	f := like(t, fmt.Sprintf("Box %.50q", name), want, func() found[api.Box] { return asFound(state.Box(y, name)) }, y)
	return f.Thing, f.OK == 1
}

func likeTomb(t *testing.T, s api.State, id int) (api.Tomb, bool) {
	t.Helper()
	want := found[api.Tomb]{}
	for i := len(s.Tombs) - 1; i >= 0; i-- {
		if s.Tombs[i].ID == id {
			want = found[api.Tomb]{s.Tombs[i], 1}
		}
	}
	y := lent(s)
	f := like(t, fmt.Sprintf("Tomb %d", id), want, func() found[api.Tomb] { return asFound(state.Tomb(y, id)) }, y)
	return f.Thing, f.OK == 1
}

// P14.1: a mailbox that is there, and that isn't.
func TestBox(t *testing.T) {
	s := some()
	for _, b := range s.Boxes {
		if got, ok := likeBox(t, s, b.Name); !ok || told(got) != told(b) {
			t.Errorf("Box %q: %t, %s", b.Name, ok, told(got))
		}
	}
	for _, name := range []string{"", "inbox", "A", "gone", "a/", "a/b/", "abc", "z", "\xff"} {
		if got, ok := likeBox(t, s, name); ok || told(got) != told(api.Box{}) {
			t.Errorf("Box %q: %t, %s", name, ok, told(got))
		}
	}
	likeBox(t, api.State{}, "INBOX")
	likeBox(t, api.State{}, "")
}

// P14.1: of two mailboxes of one name the first one; of a state that may not be, too.
func TestBoxOdd(t *testing.T) {
	s := api.State{Clock: -1, Boxes: []api.Box{
		{Name: "b", Valid: -1, Next: -2, Msgs: []api.Msg{{UID: -3, Flags: 77, Date: -4, Body: make([]byte, 3000)}, {}}},
		{Name: "", Valid: 1},
		{Name: "a", Valid: 2, Msgs: msgs(5, 5)},
		{Name: "b", Valid: 3},
		{Name: "", Valid: 4},
		{Name: "a", Valid: 5},
	}}
	for name, valid := range map[string]int{"b": -1, "": 1, "a": 2} {
		if b, ok := likeBox(t, s, name); !ok || b.Valid != valid {
			t.Errorf("Box %q: %t, %d", name, ok, b.Valid)
		}
	}
	if _, ok := likeBox(t, s, "INBOX"); ok {
		t.Error("INBOX is there")
	}
}

// P14.1: a tomb that is there, and that isn't.
func TestTomb(t *testing.T) {
	s := some()
	for _, x := range s.Tombs {
		if got, ok := likeTomb(t, s, x.ID); !ok || told(got) != told(x) {
			t.Errorf("Tomb %d: %t, %s", x.ID, ok, told(got))
		}
	}
	for _, id := range []int{least, -1, 0, 1, 2, 5, 6, 9, 10, most} {
		if got, ok := likeTomb(t, s, id); ok || told(got) != told(api.Tomb{}) {
			t.Errorf("Tomb %d: %t, %s", id, ok, told(got))
		}
	}
	likeTomb(t, api.State{}, 0)
	likeTomb(t, first(), 1)
}

// P14.1: of two tombs of one number the first one; of a state that may not be, too.
func TestTombOdd(t *testing.T) {
	s := api.State{NextTomb: -5, Tombs: []api.Tomb{
		{ID: 3, Box: "", At: -1, Msg: api.Msg{UID: -1, Flags: 99, Date: -9, Body: make([]byte, 2500)}},
		{ID: -2, Box: "inbox", At: 1},
		{ID: 0, Box: "a", At: 2, Msg: msg(7, "")},
		{ID: 3, Box: "b", At: 3},
		{ID: -2, Box: "c", At: 4},
	}}
	for id, when := range map[int]int{3: -1, -2: 1, 0: 2} {
		if x, ok := likeTomb(t, s, id); !ok || x.At != when {
			t.Errorf("Tomb %d: %t, %d", id, ok, x.At)
		}
	}
	if _, ok := likeTomb(t, s, 1); ok {
		t.Error("tomb 1 is there")
	}
}

// oddStates: whatever a state may hold that may not be.
func oddStates() []api.State {
	return []api.State{
		{}, first(), some(),
		{Boxes: []api.Box{}, Subs: []string{}, Rules: []api.Rule{}, Tombs: []api.Tomb{}, Holds: []api.Hold{}},
		{Clock: least, NextValid: most, NextTomb: -1, NextHold: 0, Boxes: boxesOf(30), Subs: append(namesOf(40), "", "\xff"), Rules: append(rulesOf(20), api.Rule{}), Tombs: tombsOf(80, "\x00"), Holds: append(holdsOf(30), api.Hold{}, api.Hold{Set: ends(least, most)})},
		{Boxes: []api.Box{{Msgs: []api.Msg{}}, {Msgs: []api.Msg{{}, {Body: []byte{}}, {Body: make([]byte, 5000)}}}}, Tombs: []api.Tomb{{}, {Msg: api.Msg{Body: []byte{}}}, {}}, Holds: []api.Hold{{Set: []api.Range{}}, {Set: []api.Range{{}}}}},
	}
}

// P14.1: the same, all memory new.
func TestCopy(t *testing.T) {
	for i, s := range oddStates() {
		y := lent(s)
		got := like(t, fmt.Sprintf("Copy of %d", i), s, func() api.State { return state.Copy(y) }, y)
		likeSame(t, got, s)
	}
}

// others: the same value, but for one field, each field once; whatever is in a list, each element's, and one element fewer, or more.
func others(v reflect.Value, whole func() api.State) []api.State {
	l := []api.State{}
	switch v.Kind() {
	case reflect.Struct:
		for i := range v.NumField() {
			l = append(l, others(v.Field(i), whole)...)
		}
	case reflect.Slice:
		was := v.Interface()
		n := v.Len()
		for i := range n {
			l = append(l, others(v.Index(i), whole)...)
		}
		v.Set(reflect.Append(v, reflect.Zero(v.Type().Elem())))
		l = append(l, whole())
		if n > 0 {
			v.Set(reflect.ValueOf(was).Slice(0, n-1))
			l = append(l, whole())
			v.Set(reflect.ValueOf(was).Slice(1, n))
			l = append(l, whole())
		}
		v.Set(reflect.ValueOf(was))
	case reflect.String:
		was := v.String()
		v.SetString(was + "x")
		l = append(l, whole())
		v.SetString(was)
	case reflect.Uint8:
		v.SetUint(v.Uint() ^ 1)
		l = append(l, whole())
		v.SetUint(v.Uint() ^ 1)
	default:
		v.SetInt(v.Int() + 1)
		l = append(l, whole())
		v.SetInt(v.Int() - 1)
	}
	return l
}

// P14.1: states that are alike but for one field aren't the same: each field of each thing once.
func TestSameFields(t *testing.T) {
	for i, s := range oddStates()[:4] {
		y := lent(s)
		l := others(reflect.ValueOf(&y).Elem(), func() api.State { return lent(y) })
		isTold(t, "what was changed, and back", y, s)
		for j, other := range l {
			if likeSame(t, s, other) || state.Same(s, other) {
				t.Errorf("state %d and its change %d are the same: %s", i, j, short(told(other)))
			}
			if got := state.Copy(other); !likeSame(t, got, other) || !state.Same(got, other) {
				t.Errorf("a copy of change %d of state %d isn't the same", j, i)
			}
		}
		if i == 2 && len(l) < 150 {
			t.Errorf("%d changes", len(l))
		}
	}
}

// P14.1: lists that hold nothing are the same, nil or not; lists in another order aren't.
func TestSameLists(t *testing.T) {
	l := oddStates()
	for i, a := range l {
		for j, b := range l {
			if want := i == j || i+j == 3 && i*j == 0; likeSame(t, a, b) != want || state.Same(a, b) != want {
				t.Errorf("states %d and %d: not %t", i, j, want)
			}
		}
	}
	bare := with(func(s *api.State) { s.Boxes[3].Msgs, s.Holds[1].Set, s.Tombs[3].Msg.Body = nil, nil, nil })
	empty := with(func(s *api.State) {
		s.Boxes[3].Msgs, s.Holds[1].Set, s.Tombs[3].Msg.Body = []api.Msg{}, []api.Range{}, []byte{}
	})
	if !likeSame(t, bare, empty) {
		t.Error("nil and empty lists aren't the same")
	}
	for i, turn := range []func(*api.State){
		func(s *api.State) { s.Boxes[1], s.Boxes[2] = s.Boxes[2], s.Boxes[1] },
		func(s *api.State) { s.Boxes[1].Msgs[0], s.Boxes[1].Msgs[1] = s.Boxes[1].Msgs[1], s.Boxes[1].Msgs[0] },
		func(s *api.State) { s.Subs[0], s.Subs[1] = s.Subs[1], s.Subs[0] },
		func(s *api.State) { s.Rules[0], s.Rules[1] = s.Rules[1], s.Rules[0] },
		func(s *api.State) { s.Tombs[0], s.Tombs[1] = s.Tombs[1], s.Tombs[0] },
		func(s *api.State) { s.Holds[0], s.Holds[1] = s.Holds[1], s.Holds[0] },
		func(s *api.State) { s.Holds[0].Set[0], s.Holds[0].Set[1] = s.Holds[0].Set[1], s.Holds[0].Set[0] },
		func(s *api.State) { s.Holds[0].Set[1].From, s.Holds[0].Set[1].To = 0, 5 },
	} {
		if likeSame(t, some(), with(turn)) {
			t.Errorf("turn %d is the same", i)
		}
	}
}
