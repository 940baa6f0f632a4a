package keep_test

import (
	"encoding/binary"
	"fmt"
	"maps"
	"reflect"
	"regexp"
	"slices"
	"strconv"
	"strings"
	"testing"

	"escheat/api"
	"escheat/event"
	"escheat/keep"
	"escheat/kv"
	"escheat/record"
	"escheat/sector"
	"escheat/state"
)

// What the chapter's words say, in the tests' own way: keys stand in a map; what they tell is read strictly, each key by its own pattern; what is changed is found by asking each pair whether it is in the other list.

const (
	top     = 1<<32 - 1
	endTime = 1 << 40
)

// nums: the bytes of numbers, whether they may be or not.
func nums(l ...int) string {
	var b []byte
	for _, n := range l {
		b = binary.BigEndian.AppendUint64(b, uint64(n))
	}
	return string(b)
}

// text: the bytes of a text, whether it may be or not.
func text(s string) string {
	return string(binary.BigEndian.AppendUint32(nil, uint32(len(s)))) + s
}

func pair(key, val string) api.Pair { return api.Pair{Key: key, Val: val} }

func isRecord(p api.Pair) bool { return p.Key != "" && p.Key[0] == 'r' }

// others: the pairs that aren't records'.
func others(l []api.Pair) []api.Pair {
	return slices.DeleteFunc(slices.Clone(l), isRecord)
}

func onlyRecords(l []api.Pair) []api.Pair {
	return slices.DeleteFunc(slices.Clone(l), func(p api.Pair) bool { return !isRecord(p) })
}

func recordKey(n int) string { return fmt.Sprintf("r%010d", n%10_000_000_000) }

func ownMsg(m api.Msg) string { return nums(m.UID, m.Flags, m.Date) + text(string(m.Body)) }

func ownKeys(s api.State, c api.Chain) []api.Pair {
	all := map[string]string{
		"!": nums(s.Clock, s.NextValid, s.NextTomb, s.NextHold),
		"#": text(string(c.Head[:])) + nums(c.Count),
	}
	for _, b := range s.Boxes {
		all["b"+b.Name] = nums(b.Valid, b.Next)
		for _, m := range b.Msgs {
			all[fmt.Sprintf("m%010d%010d", b.Valid, m.UID)] = ownMsg(m)
		}
	}
	for _, name := range s.Subs {
		all["s"+name] = ""
	}
	for _, r := range s.Rules {
		all["u"+r.Box] = nums(r.Keep)
	}
	for _, x := range s.Tombs {
		all[fmt.Sprintf("t%010d", x.ID)] = nums(x.At) + text(x.Box) + ownMsg(x.Msg)
	}
	for _, h := range s.Holds {
		v := text(h.Box) + nums(len(h.Set))
		for _, r := range h.Set {
			v += nums(r.From, r.To)
		}
		all[fmt.Sprintf("h%010d", h.ID)] = v
	}
	l := []api.Pair{}
	for _, k := range slices.Sorted(maps.Keys(all)) {
		l = append(l, pair(k, all[k]))
	}
	return l
}

// value is one that is read; bad, once something in it may not be.
type value struct {
	left string
	bad  bool
}

func (v *value) take(n int) string {
	if v.bad || n > len(v.left) {
		v.bad = true
		return strings.Repeat("\x00", min(n, 9))
	}
	s := v.left[:n]
	v.left = v.left[n:]
	return s
}

func (v *value) num() int {
	n := binary.BigEndian.Uint64([]byte(v.take(8)))
	v.bad = v.bad || n > 1<<62
	if v.bad {
		return 0
	}
	return int(n)
}

func (v *value) text() string {
	n := int(binary.BigEndian.Uint32([]byte(v.take(4))))
	v.bad = v.bad || n > 4096
	return v.take(n)
}

func (v *value) msg() api.Msg {
	return api.Msg{UID: v.num(), Flags: v.num(), Date: v.num(), Body: []byte(v.text())}
}

func (v *value) set() []api.Range {
	var set []api.Range
	for n := v.num(); n > 0 && !v.bad; n-- {
		set = append(set, api.Range{From: v.num(), To: v.num()})
	}
	return set
}

var (
	boxKey  = regexp.MustCompile(`(?s)^b(.*)$`)
	holdKey = regexp.MustCompile(`^h([0-9]{10})$`)
	msgKey  = regexp.MustCompile(`^m([0-9]{10})([0-9]{10})$`)
	subKey  = regexp.MustCompile(`(?s)^s(.*)$`)
	tombKey = regexp.MustCompile(`^t([0-9]{10})$`)
	ruleKey = regexp.MustCompile(`(?s)^u(.*)$`)
)

func number(s string) int {
	n, _ := strconv.Atoi(s)
	return n
}

// ownLoad reads strictly; what it reads may be no state or no chain yet.
func ownLoad(l []api.Pair) loaded {
	refused := loaded{Err: int(api.ErrForm)}
	var s api.State
	var c api.Chain
	last, seen := "", map[string]bool{}
	for _, p := range others(l) {
		if p.Key <= last || !readPair(&s, &c, p) {
			return refused
		}
		last, seen[p.Key] = p.Key, true
	}
	if !seen["!"] || !seen["#"] || !state.Right(s) || !record.Right(c) {
		return refused
	}
	return loaded{State: s, Chain: c}
}

func readPair(s *api.State, c *api.Chain, p api.Pair) bool {
	v := &value{left: p.Val}
	match := func(re *regexp.Regexp) []string { return re.FindStringSubmatch(p.Key) }
	if p.Key == "!" {
		s.Clock, s.NextValid, s.NextTomb, s.NextHold = v.num(), v.num(), v.num(), v.num()
	} else if p.Key == "#" {
		head := v.text()
		if len(head) != 32 {
			return false
		}
		c.Head, c.Count = [32]byte([]byte(head)), v.num()
	} else if m := match(boxKey); m != nil {
		s.Boxes = append(s.Boxes, api.Box{Name: m[1], Valid: v.num(), Next: v.num()})
	} else if m := match(holdKey); m != nil {
		s.Holds = append(s.Holds, api.Hold{ID: number(m[1]), Box: v.text(), Set: v.set()})
	} else if m := match(msgKey); m != nil {
		msg := v.msg()
		at := slices.IndexFunc(s.Boxes, func(b api.Box) bool { return b.Valid == number(m[1]) })
		if at < 0 || msg.UID != number(m[2]) {
			return false
		}
		s.Boxes[at].Msgs = append(s.Boxes[at].Msgs, msg)
	} else if m := match(subKey); m != nil {
		s.Subs = append(s.Subs, m[1])
	} else if m := match(tombKey); m != nil {
		s.Tombs = append(s.Tombs, api.Tomb{ID: number(m[1]), At: v.num(), Box: v.text(), Msg: v.msg()})
	} else if m := match(ruleKey); m != nil {
		s.Rules = append(s.Rules, api.Rule{Box: m[1], Keep: v.num()})
	} else {
		return false
	}
	return !v.bad && v.left == ""
}

// loaded is what Load answers.
type loaded struct {
	State api.State
	Chain api.Chain
	Err   int
}

// answer is what Format, Open and Commit answer.
type answer struct {
	Disk    api.Disk
	Archive api.Archive
	Err     int
}

func format(d api.Disk) answer {
	d, a, e := keep.Format(d)
	return answer{d, a, int(e)}
}

func open(d api.Disk) answer {
	d, a, e := keep.Open(d)
	return answer{d, a, int(e)}
}

func commit(d api.Disk, a api.Archive, e api.Event) answer {
	d, a, f := keep.Commit(d, a, e)
	return answer{d, a, int(f)}
}

// newState and newKeys are the first ones, written out.
func newState() api.State {
	return api.State{Boxes: []api.Box{{Name: "INBOX", Valid: 1, Next: 1}}, NextValid: 2, NextTomb: 1, NextHold: 1}
}

func newKeys() []api.Pair {
	return []api.Pair{pair("!", nums(0, 2, 1, 1)), pair("#", text(strings.Repeat("\x00", 32))+nums(0)), pair("bINBOX", nums(1, 1))}
}

func puts(l []api.Pair) []api.Change {
	var c []api.Change
	for _, p := range l {
		c = append(c, api.Change{Key: p.Key, Val: p.Val})
	}
	return c
}

func ownFormat(d api.Disk) answer {
	d, store, e := kv.Format(d)
	if e != api.OK {
		return answer{Disk: d, Err: int(e)}
	}
	d, store, e = kv.Commit(d, store, puts(newKeys()))
	if e != api.OK {
		return answer{Disk: d, Err: int(e)}
	}
	return answer{Disk: d, Archive: api.Archive{Store: store, State: newState()}}
}

func ownOpen(d api.Disk) answer {
	d, store, e := kv.Open(d)
	if e != api.OK {
		return answer{Disk: d, Err: int(e)}
	}
	x := ownLoad(store.Pairs)
	if x.Err != 0 {
		return answer{Disk: d, Err: x.Err}
	}
	want := []string{}
	for n := 1; n <= x.Chain.Count && n <= 401; n++ {
		want = append(want, recordKey(n))
	}
	for i, p := range onlyRecords(store.Pairs) {
		if i == len(want) || p.Key != want[i] {
			return answer{Disk: d, Err: int(api.ErrChain)}
		}
	}
	if len(want) != len(onlyRecords(store.Pairs)) {
		return answer{Disk: d, Err: int(api.ErrChain)}
	}
	return answer{Disk: d, Archive: api.Archive{Store: store, State: x.State, Chain: x.Chain}}
}

func ownRight(d api.Disk, a api.Archive) bool {
	return kv.Right(d, a.Store) && state.Right(a.State) && record.Right(a.Chain) && slices.Equal(others(a.Store.Pairs), ownKeys(a.State, a.Chain))
}

// ownChanges: what makes a store's pairs those of a state and a chain, with a record more.
func ownChanges(was []api.Pair, s api.State, c api.Chain, b []byte) []api.Change {
	is := append(ownKeys(s, c), pair(recordKey(c.Count), string(b)))
	slices.SortFunc(is, func(a, b api.Pair) int { return strings.Compare(a.Key, b.Key) })
	var gone, put []api.Change
	for _, p := range others(was) {
		if !slices.ContainsFunc(is, func(q api.Pair) bool { return p.Key == q.Key }) {
			gone = append(gone, api.Change{Key: p.Key, Gone: true})
		}
	}
	for _, p := range is {
		if !slices.Contains(was, p) {
			put = append(put, api.Change{Key: p.Key, Val: p.Val})
		}
	}
	return append(gone, put...)
}

func ownCommit(d api.Disk, a api.Archive, e api.Event) answer {
	if !ownRight(d, a) || !event.Right(e) {
		return answer{d, a, int(api.ErrArg)}
	}
	s, f := state.Apply(a.State, e)
	if f != api.OK {
		return answer{d, a, int(f)}
	}
	b, c, f := record.Next(a.Chain, e)
	if f != api.OK {
		return answer{d, a, int(f)}
	}
	after, store, f := kv.Commit(d, a.Store, ownChanges(a.Store.Pairs, s, c, b))
	switch f {
	case api.OK:
		return answer{Disk: after, Archive: api.Archive{Store: store, State: s, Chain: c}}
	case api.ErrLong:
		return answer{after, a, int(api.ErrFull)}
	}
	return answer{after, a, int(f)}
}

// tell writes all that a value holds; with room, what is in the spare room of its lists, too.
func tell(s *strings.Builder, v reflect.Value, room bool) {
	switch v.Kind() {
	case reflect.Struct:
		s.WriteByte('(')
		for i := range v.NumField() {
			tell(s, v.Field(i), room)
			s.WriteByte(' ')
		}
		s.WriteByte(')')
	case reflect.Slice:
		s.WriteString(strconv.Itoa(v.Len()) + ":")
		if room {
			v = v.Slice(0, v.Cap())
		}
		if v.Type().Elem().Kind() == reflect.Uint8 {
			s.WriteString(strconv.Quote(string(v.Bytes())))
			return
		}
		for i := range v.Len() {
			tell(s, v.Index(i), room)
			s.WriteByte(',')
		}
	case reflect.String:
		s.WriteString(strconv.Quote(v.String()))
	case reflect.Bool:
		s.WriteString(strconv.FormatBool(v.Bool()))
	case reflect.Array:
		switch x := v.Interface().(type) {
		case [32]byte:
			s.Write(x[:])
		case [api.Sector]byte:
			s.Write(x[:])
		}
	default:
		s.WriteString(strconv.FormatInt(v.Int(), 10))
	}
}

func told(v any) string {
	var s strings.Builder
	tell(&s, reflect.ValueOf(v), false)
	return s.String()
}

func toldRoom(v any) string {
	var s strings.Builder
	tell(&s, reflect.ValueOf(v), true)
	return s.String()
}

// short: as much of a text as a failing test tells.
func short(s string) string { return fmt.Sprintf("%.400q (%d bytes)", s, len(s)) }

// lent: the same value, in memory of its own, with spare room behind each of its lists.
func lent[T any](v T) T { return twin(reflect.ValueOf(v)).Interface().(T) }

func twin(v reflect.Value) reflect.Value {
	switch v.Kind() {
	case reflect.Struct:
		w := reflect.New(v.Type()).Elem()
		for i := range v.NumField() {
			w.Field(i).Set(twin(v.Field(i)))
		}
		return w
	case reflect.Slice:
		if v.IsNil() {
			return v
		}
		n := v.Len()
		w := reflect.MakeSlice(v.Type(), n+2, n+2)
		for i := range n {
			w.Index(i).Set(twin(v.Index(i)))
		}
		for i := n; i < n+2; i++ {
			mark(w.Index(i))
		}
		return w.Slice(0, n)
	}
	return v
}

// mark lays something into spare room.
func mark(v reflect.Value) {
	switch v.Kind() {
	case reflect.Struct:
		mark(v.Field(0))
	case reflect.Array:
		mark(v.Index(0))
	case reflect.Slice:
	case reflect.String:
		v.SetString("spare")
	case reflect.Uint8:
		v.SetUint('<')
	default:
		v.SetInt(77)
	}
}

// span is where a list's memory is, with its spare room.
type span struct{ from, to uintptr }

func spans(l []span, v reflect.Value) []span {
	switch v.Kind() {
	case reflect.Struct:
		for i := range v.NumField() {
			l = spans(l, v.Field(i))
		}
	case reflect.Slice:
		if v.Cap() == 0 {
			return l
		}
		l = append(l, span{v.Pointer(), v.Pointer() + uintptr(v.Cap())*v.Type().Elem().Size()})
		v = v.Slice(0, v.Cap())
		if kind := v.Type().Elem().Kind(); kind == reflect.Struct || kind == reflect.Slice {
			for i := range v.Len() {
				l = spans(l, v.Index(i))
			}
		}
	}
	return l
}

// apart: does no list of some values share memory with another one, spare room too?
func apart(vs ...any) bool {
	var l []span
	for _, v := range vs {
		l = spans(l, reflect.ValueOf(v))
	}
	slices.SortFunc(l, func(a, b span) int { return int(a.from) - int(b.from) })
	for i := 1; i < len(l); i++ {
		if l[i].from < l[i-1].to {
			return false
		}
	}
	return true
}

// like: what a call answers is what is wanted, asked twice; what it was lent stays as it was, spare room too; and no two lists of what was lent and answered share memory.
func like[T any](t *testing.T, what string, want T, call func() T, lent ...any) T {
	t.Helper()
	before := []string{}
	for _, v := range lent {
		before = append(before, toldRoom(v))
	}
	got, again := call(), call()
	wanted := told(want)
	if told(got) != wanted || told(again) != wanted {
		t.Errorf("%s: %s, asked again %s, not %s", what, short(told(got)), short(told(again)), short(wanted))
	}
	for i, v := range lent {
		if after := toldRoom(v); after != before[i] {
			t.Errorf("%s: what was lent is another one: %s, not %s", what, short(after), short(before[i]))
		}
	}
	if !apart(append(slices.Clone(lent), got, again)...) {
		t.Errorf("%s: memory is shared", what)
	}
	return got
}

func likeKeys(t *testing.T, what string, s api.State, c api.Chain) []api.Pair {
	t.Helper()
	x := lent(s)
	return like(t, what, ownKeys(s, c), func() []api.Pair { return keep.Keys(x, c) }, x)
}

func likeLoad(t *testing.T, what string, l []api.Pair) loaded {
	t.Helper()
	x := lent(l)
	return like(t, what, ownLoad(l), func() loaded {
		s, c, e := keep.Load(x)
		return loaded{s, c, int(e)}
	}, x)
}

func likeFormat(t *testing.T, what string, d api.Disk) answer {
	t.Helper()
	x := lent(d)
	return like(t, what, ownFormat(d), func() answer { return format(x) }, x)
}

func likeOpen(t *testing.T, what string, d api.Disk) answer {
	t.Helper()
	x := lent(d)
	return like(t, what, ownOpen(d), func() answer { return open(x) }, x)
}

func likeCommit(t *testing.T, what string, d api.Disk, a api.Archive, e api.Event) answer {
	t.Helper()
	x, y, z := lent(d), lent(a), lent(e)
	return like(t, what, ownCommit(d, a, e), func() answer { return commit(x, y, z) }, x, y, z)
}

func likeRight(t *testing.T, what string, d api.Disk, a api.Archive) bool {
	t.Helper()
	x, y := lent(d), lent(a)
	return like(t, what, ownRight(d, a), func() bool { return keep.Right(x, y) }, x, y)
}

func likeRecords(t *testing.T, what string, a api.Archive) [][]byte {
	t.Helper()
	want := [][]byte{}
	for _, p := range onlyRecords(a.Store.Pairs) {
		want = append(want, []byte(p.Val))
	}
	x := lent(a)
	return like(t, what, want, func() [][]byte { return keep.Records(x) }, x)
}

// stays: beside an error there is just what was handed in, and nothing is written.
func stays(t *testing.T, what string, d api.Disk, a api.Archive, got answer, want api.Errno) {
	t.Helper()
	if got.Err != int(want) || !sector.Same(got.Disk, d) || told(got.Archive) != told(a) {
		t.Errorf("%s: error %d, not %d; the same disk %t; the same archive %t", what, got.Err, want, sector.Same(got.Disk, d), told(got.Archive) == told(a))
	}
}
