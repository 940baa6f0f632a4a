package audit_test

import (
	"bytes"
	"crypto/sha256"
	"encoding/binary"
	"fmt"
	"reflect"
	"slices"
	"testing"

	"escheat/api"
	"escheat/audit"
	"escheat/event"
	"escheat/record"
	"escheat/state"
)

// What the chapter's words say, in the tests' own way: whether a record links is asked of it and of the bytes ahead of it alone, by the library's sum; nothing is carried along.

// nums: the bytes of numbers, whether they may be or not.
func nums(l ...int) []byte {
	var b []byte
	for _, n := range l {
		b = binary.BigEndian.AppendUint64(b, uint64(n))
	}
	return b
}

// text: the bytes of a text, whether it may be or not.
func text(s string) []byte {
	return append(binary.BigEndian.AppendUint32(nil, uint32(len(s))), s...)
}

func joined(l ...[]byte) []byte { return slices.Concat(l...) }

// headAt: what the record at a place of a chain begins with.
func headAt(l [][]byte, at int) [32]byte {
	if at == 0 {
		return [32]byte{}
	}
	return sha256.Sum256(l[at-1])
}

// raw: the record that some bytes make behind a list, whether they are an event's or not.
func raw(l [][]byte, laid []byte) []byte {
	head := headAt(l, len(l))
	return joined(head[:], nums(len(l)+1), laid)
}

// made: the records of events, one behind the other.
func made(t *testing.T, events ...api.Event) [][]byte {
	t.Helper()
	return behind(t, nil, events...)
}

// behind: records, and those of events behind them.
func behind(t *testing.T, l [][]byte, events ...api.Event) [][]byte {
	t.Helper()
	all := slices.Clone(l)
	for _, e := range events {
		laid, f := event.Encode(e)
		if f != api.OK {
			t.Fatalf("an event that may not be: %+v", e)
		}
		all = append(all, raw(all, laid))
	}
	return all
}

// fault is the first place whose record doesn't link, and what is wrong there.
type fault struct {
	at int
	e  api.Errno
}

// linksAt: does the record at a place link? It doesn't hang on what those ahead of the one ahead of it are.
func linksAt(l [][]byte, at int) api.Errno {
	ahead, _, f := record.Read(l[at])
	if f != api.OK {
		return f
	}
	if ahead.Head != headAt(l, at) || ahead.Count != at {
		return api.ErrChain
	}
	return api.OK
}

func ownFault(l [][]byte) fault {
	at := 0
	for at < len(l) && linksAt(l, at) == api.OK {
		at++
	}
	if at == len(l) {
		return fault{at, api.OK}
	}
	return fault{at, linksAt(l, at)}
}

// verified is what Verify answers; so are the others below of their calls.
type verified struct {
	Chain api.Chain
	Err   int
}

type listed struct {
	Events []api.Event
	Err    int
}

type replayed struct {
	State api.State
	Chain api.Chain
	Err   int
}

type pair struct {
	A, B []byte
	OK   bool
}

func ownVerify(l [][]byte) verified {
	x := ownFault(l)
	if x.e != api.OK {
		return verified{Err: int(x.e)}
	}
	return verified{Chain: api.Chain{Head: headAt(l, len(l)), Count: len(l)}}
}

func ownEvents(l [][]byte) listed {
	x := ownFault(l)
	if x.e != api.OK {
		return listed{Err: int(x.e)}
	}
	var events []api.Event
	for _, b := range l {
		_, e, _ := record.Read(b)
		events = append(events, e)
	}
	return listed{Events: events}
}

func ownReplay(l [][]byte) replayed {
	x, s := ownFault(l), api.State{Boxes: []api.Box{{Name: "INBOX", Valid: 1, Next: 1}}, NextValid: 2, NextTomb: 1, NextHold: 1}
	if x.e != api.OK {
		return replayed{Err: int(x.e)}
	}
	for _, b := range l {
		_, e, _ := record.Read(b)
		after, f := state.Apply(s, e)
		if f != api.OK {
			return replayed{Err: int(f)}
		}
		s = after
	}
	return replayed{State: s, Chain: ownVerify(l).Chain}
}

// ownUnlike: of two lists, turned round.
func ownUnlike(a, b [][]byte) pair {
	a, b = slices.Clone(a), slices.Clone(b)
	slices.Reverse(a)
	slices.Reverse(b)
	for i := range a {
		if i < len(b) && string(a[i]) != string(b[i]) {
			return pair{a[i], b[i], true}
		}
	}
	return pair{}
}

func ownCollide(a, b [][]byte) pair {
	x, y := ownVerify(a), ownVerify(b)
	if x.Err != 0 || y.Err != 0 || x.Chain.Count == 0 || y.Chain.Count == 0 || x.Chain.Head != y.Chain.Head {
		return pair{}
	}
	return ownUnlike(a, b)
}

// told: all that a value holds; lists that hold nothing are all told alike.
func told(v any) string { return fmt.Sprintf("%+v", v) }

// short: as much of a text as a failing test tells.
func short(s string) string { return fmt.Sprintf("%.900s (%d bytes)", s, len(s)) }

// lent: the same list, in memory of its own, with spare room behind it and behind each of its records.
func lent(l [][]byte) [][]byte {
	if l == nil {
		return nil
	}
	own := make([][]byte, 0, len(l)+2)
	for _, b := range l {
		if b != nil {
			b = joined(b, []byte("<<<"))[:len(b)]
		}
		own = append(own, b)
	}
	copy(own[len(own):cap(own)], [][]byte{[]byte("spare"), []byte("room")})
	return own
}

// toldRoom: a list with all its spare room.
func toldRoom(l [][]byte) string {
	all := fmt.Appendf(nil, "%d: ", len(l))
	for _, b := range l[:cap(l)] {
		all = append(append(fmt.Append(all, len(b), " "), b[:cap(b)]...), '\n')
	}
	return string(all)
}

// span is where a list's memory is, with its spare room.
type span struct{ from, to uintptr }

func spans(l []span, v reflect.Value) []span {
	switch v.Kind() {
	case reflect.Struct:
		for i := range v.NumField() {
			l = spans(l, v.Field(i))
		}
	case reflect.Slice:
		if v.Cap() == 0 {
			return l
		}
		l = append(l, span{v.Pointer(), v.Pointer() + uintptr(v.Cap())*v.Type().Elem().Size()})
		v = v.Slice(0, v.Cap())
		for i := range v.Len() {
			if v.Type().Elem().Kind() != reflect.Uint8 {
				l = spans(l, v.Index(i))
			}
		}
	}
	return l
}

// apart: does no list of some values share memory with another one, spare room too?
func apart(vs ...any) bool {
	var l []span
	for _, v := range vs {
		l = spans(l, reflect.ValueOf(v))
	}
	slices.SortFunc(l, func(a, b span) int { return int(a.from) - int(b.from) })
	for i := 1; i < len(l); i++ {
		if l[i].from < l[i-1].to {
			return false
		}
	}
	return true
}

// like: what a call answers of lists is what is wanted, asked twice; what it was lent stays as it was, spare room too; and no two lists of what was lent and answered share memory.
func like[T any](t *testing.T, what string, want T, call func(l [][][]byte) T, lists ...[][]byte) T {
	t.Helper()
	own, before, all := [][][]byte{}, []string{}, []any{}
	for _, l := range lists {
		x := lent(l)
		own, before, all = append(own, x), append(before, toldRoom(x)), append(all, x)
	}
	got, again := call(own), call(own)
	if told(got) != told(want) || told(again) != told(want) {
		t.Errorf("%s: %s, asked again %s, not %s", what, short(told(got)), short(told(again)), short(told(want)))
	}
	for i, x := range own {
		if toldRoom(x) != before[i] {
			t.Errorf("%s: what was lent is another one: %q, not %q", what, short(toldRoom(x)), short(before[i]))
		}
	}
	if !apart(append(all, got, again)...) {
		t.Errorf("%s: memory is shared", what)
	}
	return got
}

// likeAll: the model's answer, of each call that takes one list; the place is that of the fault.
func likeAll(t *testing.T, what string, l [][]byte) replayed {
	t.Helper()
	like(t, what+": Verify", ownVerify(l), func(l [][][]byte) verified {
		c, f := audit.Verify(l[0])
		return verified{c, int(f)}
	}, l)
	like(t, what+": Events", ownEvents(l), func(l [][][]byte) listed {
		events, f := audit.Events(l[0])
		return listed{events, int(f)}
	}, l)
	like(t, what+": Place", ownFault(l).at, func(l [][][]byte) int { return audit.Place(l[0]) }, l)
	return like(t, what+": Replay", ownReplay(l), func(l [][][]byte) replayed {
		s, c, f := audit.Replay(l[0])
		return replayed{s, c, int(f)}
	}, l)
}

// likeCollide: the model's answer, whichever is first.
func likeCollide(t *testing.T, what string, a, b [][]byte) pair {
	t.Helper()
	collide := func(l [][][]byte) pair {
		x, y, ok := audit.Collide(l[0], l[1])
		return pair{x, y, ok}
	}
	like(t, what+": Collide, turned round", ownCollide(b, a), collide, b, a)
	return like(t, what+": Collide", ownCollide(a, b), collide, a, b)
}

// breaks: a list breaks at a place by an error; each call says so, and nothing else.
func breaks(t *testing.T, what string, l [][]byte, at int, want api.Errno) {
	t.Helper()
	likeAll(t, what, l)
	if c, f := audit.Verify(l); f != want || c != (api.Chain{}) {
		t.Errorf("%s: Verify: error %d, not %d; beside it %v", what, f, want, c)
	}
	if events, f := audit.Events(l); f != want || len(events) != 0 {
		t.Errorf("%s: Events: error %d, not %d; beside it %d events", what, f, want, len(events))
	}
	if s, c, f := audit.Replay(l); f != want || told(s) != told(api.State{}) || c != (api.Chain{}) {
		t.Errorf("%s: Replay: error %d, not %d; beside it %s, %v", what, f, want, short(told(s)), c)
	}
	if n := audit.Place(l); n != at {
		t.Errorf("%s: Place: %d, not %d", what, n, at)
	}
}

// same: are lists the same, record by record?
func same(a, b [][]byte) bool { return slices.EqualFunc(a, b, bytes.Equal) }
