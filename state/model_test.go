package state_test

import (
	"fmt"
	"maps"
	"reflect"
	"slices"
	"strconv"
	"strings"
	"testing"

	"escheat/api"
	"escheat/event"
	"escheat/name"
	"escheat/state"
)

// What the chapter's words say, in the tests' own way: what there is stands in maps, is sought by its name or number, and is laid in order at the end; whether it rises is asked of each two.

const (
	least   = -1 << 63
	most    = 1<<63 - 1
	top     = 4294967295    // the greatest number of a message
	endTime = 1099511627776 // the last second
)

func within(n, from, to int) bool { return n >= from && n <= to }

func ownMsgMayBe(m api.Msg) bool {
	return within(m.UID, 1, top) && within(m.Flags, 0, 31) && within(m.Date, 0, endTime) && len(m.Body) < 2001
}

func ownBoxMayBe(b api.Box) bool {
	right := within(b.Valid, 1, top) && within(b.Next, 1, top+1) && len(b.Msgs) < 41
	for i, m := range b.Msgs {
		right = right && ownMsgMayBe(m) && m.UID < b.Next
		for _, behind := range b.Msgs[i+1:] {
			right = right && m.UID < behind.UID
		}
	}
	return right
}

func ownSetMayBe(set []api.Range) bool {
	right := len(set) < 61
	for _, r := range set {
		right = right && within(r.From, 0, top) && within(r.To, 0, top)
	}
	return right
}

func ownRight(s api.State) bool {
	if len(s.Boxes) > 16 || len(s.Subs) > 16 || len(s.Rules) > 16 || len(s.Tombs) > 60 || len(s.Holds) > 16 {
		return false
	}
	right, inboxes := within(s.Clock, 0, endTime), 0
	for _, next := range []int{s.NextValid, s.NextTomb, s.NextHold} {
		right = right && within(next, 1, top+1)
	}
	for i, b := range s.Boxes {
		right = right && name.Right(b.Name) && ownBoxMayBe(b) && b.Valid < s.NextValid
		for _, c := range s.Boxes[i+1:] {
			right = right && b.Name < c.Name && b.Valid != c.Valid
		}
		if b.Name == "INBOX" {
			inboxes++
		}
	}
	for i, sub := range s.Subs {
		right = right && name.Right(sub) && !slices.ContainsFunc(s.Subs[i+1:], func(c string) bool { return c <= sub })
	}
	for i, r := range s.Rules {
		right = right && name.Right(r.Box) && within(r.Keep, 1, endTime)
		right = right && !slices.ContainsFunc(s.Rules[i+1:], func(c api.Rule) bool { return c.Box <= r.Box })
	}
	for i, x := range s.Tombs {
		right = right && within(x.ID, 1, s.NextTomb-1) && name.Right(x.Box) && within(x.At, 0, s.Clock) && ownMsgMayBe(x.Msg)
		right = right && !slices.ContainsFunc(s.Tombs[i+1:], func(c api.Tomb) bool { return c.ID <= x.ID })
	}
	for i, h := range s.Holds {
		right = right && within(h.ID, 1, s.NextHold-1) && name.Right(h.Box) && ownSetMayBe(h.Set)
		right = right && !slices.ContainsFunc(s.Holds[i+1:], func(c api.Hold) bool { return c.ID <= h.ID })
	}
	return right && inboxes == 1
}

// world is a state that may be, in maps.
type world struct {
	clock, valid, tomb, hold int
	boxes                    map[string]api.Box
	subs                     map[string]bool
	rules                    map[string]int
	tombs                    map[int]api.Tomb
	holds                    map[int]api.Hold
}

func unfold(s api.State) *world {
	w := &world{s.Clock, s.NextValid, s.NextTomb, s.NextHold, map[string]api.Box{}, map[string]bool{}, map[string]int{}, map[int]api.Tomb{}, map[int]api.Hold{}}
	for _, b := range s.Boxes {
		w.boxes[b.Name] = b
	}
	for _, sub := range s.Subs {
		w.subs[sub] = true
	}
	for _, r := range s.Rules {
		w.rules[r.Box] = r.Keep
	}
	for _, x := range s.Tombs {
		w.tombs[x.ID] = x
	}
	for _, h := range s.Holds {
		w.holds[h.ID] = h
	}
	return w
}

func (w *world) fold() api.State {
	s := api.State{Clock: w.clock, NextValid: w.valid, NextTomb: w.tomb, NextHold: w.hold}
	for _, k := range slices.Sorted(maps.Keys(w.boxes)) {
		b := w.boxes[k]
		b.Name = k
		s.Boxes = append(s.Boxes, b)
	}
	s.Subs = slices.Sorted(maps.Keys(w.subs))
	for _, k := range slices.Sorted(maps.Keys(w.rules)) {
		s.Rules = append(s.Rules, api.Rule{Box: k, Keep: w.rules[k]})
	}
	for _, k := range slices.Sorted(maps.Keys(w.tombs)) {
		s.Tombs = append(s.Tombs, w.tombs[k])
	}
	for _, k := range slices.Sorted(maps.Keys(w.holds)) {
		s.Holds = append(s.Holds, w.holds[k])
	}
	return s
}

func ownApply(s api.State, e api.Event) (api.State, api.Errno) {
	if !ownRight(s) || !event.Right(e) {
		return s, api.ErrArg
	}
	w := unfold(s)
	if e.At > w.clock {
		w.clock = e.At
	}
	if f := w.happens(e); f != api.OK {
		return s, f
	}
	return w.fold(), api.OK
}

// happens: what an event does; beside an error the maps are of no use any more.
func (w *world) happens(e api.Event) api.Errno {
	_, there := w.boxes[e.Box]
	switch e.Kind {
	case api.EvDelete, api.EvRename, api.EvAppend, api.EvStore, api.EvCopy, api.EvExpunge:
		if !there {
			return api.ErrNone
		}
	}
	switch e.Kind {
	case api.EvCreate:
		return w.create(e.Box)
	case api.EvDelete:
		if e.Box == "INBOX" {
			return api.ErrArg
		}
		f := w.bury(e.Box, func(api.Msg) bool { return true })
		delete(w.boxes, e.Box)
		return f
	case api.EvRename:
		return w.rename(e.Box, e.To)
	case api.EvSubscribe, api.EvForget:
		return w.list(e.Box, e.Kind == api.EvSubscribe)
	case api.EvAppend:
		return w.put(e.Box, api.Msg{Flags: e.Flags, Date: e.Date, Body: e.Body})
	case api.EvStore:
		return w.store(e)
	case api.EvCopy:
		return w.copies(e)
	case api.EvExpunge:
		if !w.has(e.Box, e.IDs) {
			return api.ErrNone
		}
		return w.bury(e.Box, func(m api.Msg) bool { return slices.Contains(e.IDs, m.UID) })
	case api.EvRestore:
		return w.restore(e.N)
	case api.EvRule:
		return w.rule(e.Box, e.N)
	case api.EvHold:
		return w.holdOn(e.Box, e.Set)
	case api.EvRelease:
		if _, ok := w.holds[e.N]; !ok {
			return api.ErrNone
		}
		delete(w.holds, e.N)
		return api.OK
	}
	return w.purge(e.IDs)
}

func (w *world) create(box string) api.Errno {
	if _, there := w.boxes[box]; there {
		return api.ErrThere
	}
	if len(w.boxes) > 15 {
		return api.ErrFull
	}
	if w.valid > top {
		return api.ErrUsed
	}
	w.boxes[box] = api.Box{Valid: w.valid, Next: 1}
	w.valid++
	return api.OK
}

func (w *world) rename(from, to string) api.Errno {
	if from == "INBOX" || strings.HasPrefix(to+"/", from+"/") {
		return api.ErrArg
	}
	moved := map[string]string{}
	for old := range w.boxes {
		if strings.HasPrefix(old+"/", from+"/") {
			moved[old] = to + strings.TrimPrefix(old, from)
		}
	}
	for _, s := range moved {
		if !name.Right(s) {
			return api.ErrForm
		}
	}
	for _, s := range moved {
		_, there := w.boxes[s]
		if _, moves := moved[s]; there && !moves {
			return api.ErrThere
		}
	}
	after := map[string]api.Box{}
	for old, b := range w.boxes {
		if s, moves := moved[old]; moves {
			old = s
		}
		after[old] = b
	}
	w.boxes = after
	return api.OK
}

func (w *world) list(box string, in bool) api.Errno {
	switch {
	case w.subs[box] && in:
		return api.ErrThere
	case !w.subs[box] && !in:
		return api.ErrNone
	case in && len(w.subs) > 15:
		return api.ErrFull
	case in:
		w.subs[box] = true
	default:
		delete(w.subs, box)
	}
	return api.OK
}

// put: a message behind those of a mailbox.
func (w *world) put(box string, m api.Msg) api.Errno {
	b := w.boxes[box]
	if b.Next > top {
		return api.ErrUsed
	}
	if len(b.Msgs) > 39 {
		return api.ErrFull
	}
	m.UID = b.Next
	b.Msgs = slices.Concat(b.Msgs, []api.Msg{m})
	b.Next++
	w.boxes[box] = b
	return api.OK
}

// has: has a mailbox messages of all these numbers?
func (w *world) has(box string, ids []int) bool {
	left := map[int]bool{}
	for _, id := range ids {
		left[id] = true
	}
	for _, m := range w.boxes[box].Msgs {
		delete(left, m.UID)
	}
	return len(left) == 0
}

func (w *world) store(e api.Event) api.Errno {
	if !w.has(e.Box, e.IDs) {
		return api.ErrNone
	}
	b := w.boxes[e.Box]
	b.Msgs = slices.Clone(b.Msgs)
	for i, m := range b.Msgs {
		if slices.Contains(e.IDs, m.UID) {
			b.Msgs[i].Flags = []int{e.Flags, m.Flags | e.Flags, m.Flags &^ e.Flags}[e.Mode]
		}
	}
	w.boxes[e.Box] = b
	return api.OK
}

func (w *world) copies(e api.Event) api.Errno {
	if _, there := w.boxes[e.To]; !there || !w.has(e.Box, e.IDs) {
		return api.ErrNone
	}
	for _, m := range w.boxes[e.Box].Msgs {
		if slices.Contains(e.IDs, m.UID) {
			if f := w.put(e.To, m); f != api.OK {
				return f
			}
		}
	}
	return api.OK
}

// bury: some messages of a mailbox are tombs.
func (w *world) bury(box string, goes func(api.Msg) bool) api.Errno {
	b := w.boxes[box]
	l := b.Msgs
	b.Msgs = nil
	for _, m := range l {
		if !goes(m) {
			b.Msgs = append(b.Msgs, m)
		} else {
			w.tombs[w.tomb] = api.Tomb{ID: w.tomb, Box: box, At: w.clock, Msg: m}
			w.tomb++
		}
	}
	w.boxes[box] = b
	if len(w.tombs) > 60 {
		return api.ErrFull
	}
	if w.tomb > top+1 {
		return api.ErrUsed
	}
	return api.OK
}

func (w *world) restore(id int) api.Errno {
	x, ok := w.tombs[id]
	if _, there := w.boxes[x.Box]; !ok || !there {
		return api.ErrNone
	}
	delete(w.tombs, id)
	return w.put(x.Box, x.Msg)
}

func (w *world) rule(box string, keep int) api.Errno {
	w.rules[box] = keep
	if keep == 0 {
		delete(w.rules, box)
	}
	if len(w.rules) > 16 {
		return api.ErrFull
	}
	return api.OK
}

func (w *world) holdOn(box string, set []api.Range) api.Errno {
	if len(w.holds) > 15 {
		return api.ErrFull
	}
	if w.hold > top {
		return api.ErrUsed
	}
	w.holds[w.hold] = api.Hold{ID: w.hold, Box: box, Set: set}
	w.hold++
	return api.OK
}

// isHeld: is a tomb's message held, its number being its mailbox'?
func (w *world) isHeld(x api.Tomb) bool {
	for _, h := range w.holds {
		if h.Box != x.Box {
			continue
		}
		if len(h.Set) == 0 {
			return true
		}
		for _, r := range h.Set {
			ends := []int{r.From, r.To}
			for i := range ends {
				if ends[i] == 0 {
					ends[i] = top
				}
			}
			if within(x.Msg.UID, slices.Min(ends), slices.Max(ends)) {
				return true
			}
		}
	}
	return false
}

func (w *world) purge(ids []int) api.Errno {
	f := api.OK
	for _, id := range ids {
		x, ok := w.tombs[id]
		if !ok {
			return api.ErrNone
		}
		if w.clock < x.At+w.rules[x.Box] || w.isHeld(x) {
			f = api.ErrHeld
		}
	}
	for _, id := range ids {
		delete(w.tombs, id)
	}
	return f
}

// tell writes all that a value holds; with room, what is in the spare room of its lists, too.
func tell(s *strings.Builder, v reflect.Value, room bool) {
	switch v.Kind() {
	case reflect.Struct:
		s.WriteByte('(')
		for i := range v.NumField() {
			tell(s, v.Field(i), room)
			s.WriteByte(' ')
		}
		s.WriteByte(')')
	case reflect.Slice:
		s.WriteString(strconv.Itoa(v.Len()) + ":")
		if room {
			v = v.Slice(0, v.Cap())
		}
		if v.Type().Elem().Kind() == reflect.Uint8 {
			s.WriteString(strconv.Quote(string(v.Bytes())))
			return
		}
		for i := range v.Len() {
			tell(s, v.Index(i), room)
			s.WriteByte(',')
		}
	case reflect.String:
		s.WriteString(strconv.Quote(v.String()))
	default:
		s.WriteString(strconv.FormatInt(v.Int(), 10))
	}
}

func told(v any) string {
	var s strings.Builder
	tell(&s, reflect.ValueOf(v), false)
	return s.String()
}

func toldRoom(v any) string {
	var s strings.Builder
	tell(&s, reflect.ValueOf(v), true)
	return s.String()
}

// short: as much of a text as a failing test tells.
func short(s string) string { return fmt.Sprintf("%.900s (%d bytes)", s, len(s)) }

// lent: the same value, in memory of its own, with spare room behind each of its lists.
func lent[T any](v T) T { return twin(reflect.ValueOf(v)).Interface().(T) }

func twin(v reflect.Value) reflect.Value {
	switch v.Kind() {
	case reflect.Struct:
		w := reflect.New(v.Type()).Elem()
		for i := range v.NumField() {
			w.Field(i).Set(twin(v.Field(i)))
		}
		return w
	case reflect.Slice:
		if v.IsNil() {
			return v
		}
		n := v.Len()
		w := reflect.MakeSlice(v.Type(), n+2, n+2)
		for i := range n {
			w.Index(i).Set(twin(v.Index(i)))
		}
		for i := n; i < n+2; i++ {
			mark(w.Index(i))
		}
		return w.Slice(0, n)
	}
	return v
}

// mark lays something into spare room.
func mark(v reflect.Value) {
	switch v.Kind() {
	case reflect.Struct:
		mark(v.Field(0))
	case reflect.String:
		v.SetString("spare")
	case reflect.Uint8:
		v.SetUint('<')
	default:
		v.SetInt(77)
	}
}

// span is where a list's memory is, with its spare room.
type span struct{ from, to uintptr }

func spans(l []span, v reflect.Value) []span {
	switch v.Kind() {
	case reflect.Struct:
		for i := range v.NumField() {
			l = spans(l, v.Field(i))
		}
	case reflect.Slice:
		if v.Cap() == 0 {
			return l
		}
		l = append(l, span{v.Pointer(), v.Pointer() + uintptr(v.Cap())*v.Type().Elem().Size()})
		v = v.Slice(0, v.Cap())
		if v.Type().Elem().Kind() == reflect.Struct {
			for i := range v.Len() {
				l = spans(l, v.Index(i))
			}
		}
	}
	return l
}

// apart: does no list of some values share memory with another one, spare room too?
func apart(vs ...any) bool {
	var l []span
	for _, v := range vs {
		l = spans(l, reflect.ValueOf(v))
	}
	slices.SortFunc(l, func(a, b span) int { return int(a.from) - int(b.from) })
	for i := 1; i < len(l); i++ {
		if l[i].from < l[i-1].to {
			return false
		}
	}
	return true
}

// like: what a call answers is what is wanted, asked twice; what it was lent stays as it was, spare room too; and no two lists of what was lent and answered share memory.
func like[T any](t *testing.T, what string, want T, call func() T, lent ...any) T {
	t.Helper()
	before := []string{}
	for _, v := range lent {
		before = append(before, toldRoom(v))
	}
	got, again := call(), call()
	if told(got) != told(want) || told(again) != told(want) {
		t.Errorf("%s: %s, asked again %s, not %s", what, short(told(got)), short(told(again)), short(told(want)))
	}
	for i, v := range lent {
		if after := toldRoom(v); after != before[i] {
			t.Errorf("%s: what was lent is another one: %s, not %s", what, short(after), short(before[i]))
		}
	}
	if !apart(append(slices.Clone(lent), got, again)...) {
		t.Errorf("%s: memory is shared", what)
	}
	return got
}

// answer is what Apply answers.
type answer struct {
	State api.State
	Err   api.Errno
}

// likeApply: the model's answer; a state that may be stays one, and beside an error it is the one that came in.
func likeApply(t *testing.T, s api.State, e api.Event) (api.State, api.Errno) {
	t.Helper()
	want, f := ownApply(s, e)
	lentState, lentEvent := lent(s), lent(e)
	what := fmt.Sprintf("event %.200s", told(e))
	a := like(t, what, answer{want, f}, func() answer {
		after, f := state.Apply(lentState, lentEvent)
		return answer{after, f}
	}, lentState, lentEvent)
	if likeRight(t, a.State) != likeRight(t, s) {
		t.Errorf("%s: whether the state may be is another thing: %s", what, short(told(a.State)))
	}
	if a.Err != api.OK && told(a.State) != told(s) {
		t.Errorf("%s: error %d, and the state is another one: %s", what, a.Err, short(told(a.State)))
	}
	return a.State, a.Err
}

func likeRight(t *testing.T, s api.State) bool {
	t.Helper()
	y := lent(s)
	before := toldRoom(y)
	want := ownRight(s)
	if state.Right(y) != want || state.Right(y) != want {
		t.Errorf("Right: not %t of %s", want, short(told(s)))
	}
	if toldRoom(y) != before {
		t.Errorf("Right has changed %s", short(before))
	}
	return want
}

// likeSame: whichever is first, they are the same just if they are told by one text.
func likeSame(t *testing.T, a, b api.State) bool {
	t.Helper()
	c, d := lent(a), lent(b)
	before := toldRoom(c) + toldRoom(d)
	want := told(a) == told(b)
	if state.Same(c, d) != want || state.Same(d, c) != want {
		t.Errorf("Same: not %t, of %s and %s", want, short(told(a)), short(told(b)))
	}
	if toldRoom(c)+toldRoom(d) != before {
		t.Error("Same has changed what was lent")
	}
	return want
}
