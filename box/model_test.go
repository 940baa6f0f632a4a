package box_test

import (
	"fmt"
	"slices"
	"strings"
	"testing"

	"escheat/api"
	"escheat/box"
)

// What the chapter's words say, in the tests' own way: mailboxes are the same if they are told by the same text; messages are held against each other one by one, and flags go bit by bit.

const (
	least   = -1 << 63
	most    = 1<<63 - 1
	top     = 4294967295    // the greatest number of a message
	endTime = 1099511627776 // the last second
)

// answer is what a call answers, as far as it has such a thing.
type answer struct {
	box  api.Box
	uid  int
	msgs []api.Msg
	e    api.Errno
}

func (a answer) String() string {
	return fmt.Sprintf("%s; %d; %s; error %d", told(a.box), a.uid, toldMsgs(a.msgs), a.e)
}

func toldMsgs(l []api.Msg) string {
	var s strings.Builder
	for _, m := range l {
		fmt.Fprintf(&s, " (%d %d %d %q)", m.UID, m.Flags, m.Date, m.Body)
	}
	return s.String()
}

func told(b api.Box) string {
	return fmt.Sprintf("%q %d %d:", b.Name, b.Valid, b.Next) + toldMsgs(b.Msgs)
}

// short: as much of a text as a failing test tells.
func short(s string) string { return fmt.Sprintf("%.300s (%d bytes)", s, len(s)) }

func ownMsgMayBe(m api.Msg) bool {
	return !(m.UID < 1 || m.UID > top || m.Flags < 0 || m.Flags > 31 || m.Date < 0 || m.Date > endTime || len(m.Body) > 2000)
}

func ownRight(b api.Box) bool {
	right := b.Valid > 0 && b.Valid < top+1 && b.Next > 0 && b.Next < top+2 && len(b.Msgs) < 41
	for i, m := range b.Msgs {
		right = right && ownMsgMayBe(m) && m.UID < b.Next
		for _, behind := range b.Msgs[i+1:] {
			right = right && m.UID < behind.UID
		}
	}
	return right
}

func ownAdd(b api.Box, m api.Msg) answer {
	m.UID = 1
	if !ownRight(b) || !ownMsgMayBe(m) {
		return answer{box: b, e: api.ErrArg}
	}
	if b.Next == top+1 {
		return answer{box: b, e: api.ErrUsed}
	}
	if len(b.Msgs) == 40 {
		return answer{box: b, e: api.ErrFull}
	}
	m.UID = b.Next
	b.Msgs = slices.Concat(b.Msgs, []api.Msg{m})
	b.Next = m.UID + 1
	return answer{box: b, uid: m.UID}
}

// ownFlags: bit by bit.
func ownFlags(flags, mode, more int) int {
	sum := 0
	for bit := 1; bit <= 16; bit *= 2 {
		was, is := flags/bit%2 == 1, more/bit%2 == 1
		if []bool{is, was || is, was && !is}[mode] {
			sum += bit
		}
	}
	return sum
}

// ownThere: is each of the numbers a message's?
func ownThere(b api.Box, ids []int) bool {
	there := map[int]bool{}
	for _, m := range b.Msgs {
		there[m.UID] = true
	}
	for _, id := range ids {
		if !there[id] {
			return false
		}
	}
	return true
}

func ownStore(b api.Box, ids []int, mode, flags int) answer {
	if !ownRight(b) || mode < 0 || mode > 2 || flags < 0 || flags > 31 {
		return answer{box: b, e: api.ErrArg}
	}
	if !ownThere(b, ids) {
		return answer{box: b, e: api.ErrNone}
	}
	b.Msgs = slices.Clone(b.Msgs)
	for _, id := range ids {
		for i, m := range b.Msgs {
			if m.UID == id {
				b.Msgs[i].Flags = ownFlags(m.Flags, mode, flags)
			}
		}
	}
	return answer{box: b}
}

func ownTake(b api.Box, ids []int) answer {
	if !ownRight(b) {
		return answer{box: b, e: api.ErrArg}
	}
	if !ownThere(b, ids) {
		return answer{box: b, e: api.ErrNone}
	}
	l := b.Msgs
	b.Msgs = nil
	a := answer{}
	for _, m := range l {
		if slices.Contains(ids, m.UID) {
			a.msgs = append(a.msgs, m)
		} else {
			b.Msgs = append(b.Msgs, m)
		}
	}
	a.box = b
	return a
}

// ownMsg: the same message, in memory of its own, with spare room behind its bytes.
func ownMsg(m api.Msg) api.Msg {
	if m.Body != nil {
		m.Body = slices.Concat(m.Body, []byte("<>"))[:len(m.Body)]
	}
	return m
}

// ownBox: the same mailbox, in memory of its own, with spare room behind each of its lists.
func ownBox(b api.Box) api.Box {
	if b.Msgs != nil {
		l := []api.Msg{}
		for _, m := range b.Msgs {
			l = append(l, ownMsg(m))
		}
		spare := api.Msg{UID: 99, Body: []byte("spare")}
		b.Msgs = append(l, spare, spare)[:len(l)]
	}
	return b
}

// ownAnswer: the same one, that stays as it is whatever becomes of it.
func ownAnswer(a answer) answer {
	a.box = ownBox(a.box)
	a.msgs = ownBox(api.Box{Msgs: a.msgs}).Msgs
	return a
}

func room[T any](l []T) []T { return l[:cap(l)] }

// toldRoom: a mailbox with all its spare room.
func toldRoom(b api.Box) string {
	n := len(b.Msgs)
	b.Msgs = slices.Clone(room(b.Msgs))
	for i, m := range b.Msgs {
		b.Msgs[i].Body = room(m.Body)
	}
	return fmt.Sprint(n, told(b))
}

// memory is lists and bytes, with their spare room.
type memory struct {
	lists  [][]api.Msg
	bodies [][]byte
}

func (y *memory) add(l []api.Msg) {
	y.lists = append(y.lists, room(l))
	for _, m := range l {
		y.bodies = append(y.bodies, room(m.Body))
	}
}

// apart: does no two of it share any? Each is written over with a mark of its own, which it keeps, unless another one's is written over it. (What was in it is lost.)
func (y *memory) apart() bool {
	for i, l := range y.lists {
		for j := range l {
			l[j] = api.Msg{UID: -i}
		}
	}
	for i, l := range y.bodies {
		for j := range l {
			l[j] = byte(i % 251)
		}
	}
	for i, l := range y.lists {
		if slices.ContainsFunc(l, func(m api.Msg) bool { return m.UID != -i }) {
			return false
		}
	}
	for i, l := range y.bodies {
		if slices.ContainsFunc(l, func(c byte) bool { return c != byte(i%251) }) {
			return false
		}
	}
	return true
}

// asked: what a call answers is what the model says; what it was lent stays as it was, spare room too; and no two of what was lent and answered share memory.
func asked(t *testing.T, what string, b api.Box, m api.Msg, want answer, call func(api.Box, api.Msg) answer) answer {
	t.Helper()
	want = ownAnswer(want)
	lentBox, lentMsg := ownBox(b), ownMsg(m)
	lent := func() string {
		return toldRoom(lentBox) + toldRoom(api.Box{Msgs: []api.Msg{lentMsg}})
	}
	before := lent()
	a := call(lentBox, lentMsg)
	if got, want := a.String(), want.String(); got != want {
		t.Errorf("%s: %s, not %s", what, short(got), short(want))
	}
	if after := lent(); after != before {
		t.Errorf("%s: what was lent is another one: %s, not %s", what, short(after), short(before))
	}
	kept := ownAnswer(a)
	var y memory
	y.add(lentBox.Msgs)
	y.add([]api.Msg{lentMsg})
	y.add(a.box.Msgs)
	y.add(a.msgs)
	if !y.apart() {
		t.Errorf("%s: memory is shared", what)
	}
	return kept
}

// askedNums: likewise, of a call that takes numbers, too.
func askedNums(t *testing.T, what string, b api.Box, nums []int, want answer, call func(api.Box, []int) answer) answer {
	t.Helper()
	lent := nums
	if nums != nil {
		lent = append(slices.Clone(nums), -77, -88)[:len(nums)]
	}
	before := slices.Clone(room(lent))
	a := asked(t, what, b, api.Msg{}, want, func(b api.Box, _ api.Msg) answer { return call(b, lent) })
	if !slices.Equal(room(lent), before) {
		t.Errorf("%s: the numbers are others", what)
	}
	return a
}

func likeAdd(t *testing.T, b api.Box, m api.Msg) answer {
	t.Helper()
	return asked(t, "Add", b, m, ownAdd(b, m), func(b api.Box, m api.Msg) answer {
		after, uid, e := box.Add(b, m)
		return answer{box: after, uid: uid, e: e}
	})
}

func likeStore(t *testing.T, b api.Box, ids []int, mode, flags int) answer {
	t.Helper()
	what := fmt.Sprintf("Store(%.9v, %d, %d)", ids, mode, flags)
	return askedNums(t, what, b, ids, ownStore(b, ids, mode, flags), func(b api.Box, ids []int) answer {
		after, e := box.Store(b, ids, mode, flags)
		return answer{box: after, e: e}
	})
}

func likeTake(t *testing.T, b api.Box, ids []int) answer {
	t.Helper()
	return askedNums(t, fmt.Sprintf("Take(%.9v)", ids), b, ids, ownTake(b, ids), func(b api.Box, ids []int) answer {
		after, taken, e := box.Take(b, ids)
		return answer{box: after, msgs: taken, e: e}
	})
}

func likeCopy(t *testing.T, b api.Box) answer {
	t.Helper()
	return asked(t, "Copy", b, api.Msg{}, answer{box: b}, func(b api.Box, _ api.Msg) answer {
		return answer{box: box.Copy(b)}
	})
}

// likeFind: the first message of a number, and its place, are those that going through from behind ends with.
func likeFind(t *testing.T, b api.Box, uid int) (api.Msg, bool) {
	t.Helper()
	first, place := api.Msg{}, 0
	for i, m := range slices.Backward(b.Msgs) {
		if m.UID == uid {
			first, place = m, i+1
		}
	}
	found := false
	want := answer{uid: place, msgs: []api.Msg{first}}
	a := asked(t, fmt.Sprintf("Find or Place of %d", uid), b, api.Msg{}, want, func(b api.Box, _ api.Msg) answer {
		m, ok := box.Find(b, uid)
		found = ok
		return answer{uid: box.Place(b, uid), msgs: []api.Msg{m}}
	})
	if found != (place > 0) {
		t.Errorf("Find of %d: %t", uid, found)
	}
	return a.msgs[0], found
}

// likeCount: a message has all bits of a number if that has none that it hasn't.
func likeCount(t *testing.T, b api.Box, flag int) int {
	t.Helper()
	want := 0
	for _, m := range b.Msgs {
		all := true
		for i := range 64 {
			all = all && (uint64(flag)>>i%2 == 0 || uint64(m.Flags)>>i%2 == 1)
		}
		if all {
			want++
		}
	}
	asked(t, fmt.Sprintf("Count of %d", flag), b, api.Msg{}, answer{uid: want}, func(b api.Box, _ api.Msg) answer {
		return answer{uid: box.Count(b, flag)}
	})
	return want
}

// likeUIDs: the messages' numbers, as they stand, in a list of their own.
func likeUIDs(t *testing.T, b api.Box) []int {
	t.Helper()
	lent := ownBox(b)
	before := toldRoom(lent)
	nums := box.UIDs(lent)
	want := []int{}
	for _, m := range b.Msgs {
		want = append(want, m.UID)
	}
	if !slices.Equal(nums, want) || toldRoom(lent) != before {
		t.Errorf("UIDs: %v, not %v; or what was lent is another one", nums, want)
	}
	for i := range room(nums) {
		room(nums)[i] = -7
	}
	if again := box.UIDs(lent); !slices.Equal(again, want) {
		t.Errorf("UIDs asked again: %v, not %v", again, want)
	}
	return want
}

// likeSame: whichever is first, they are the same just if they are told by one text.
func likeSame(t *testing.T, a, b api.Box) bool {
	t.Helper()
	c, d := ownBox(a), ownBox(b)
	before := toldRoom(c) + toldRoom(d)
	want := told(a) == told(b)
	if box.Same(c, d) != want || box.Same(d, c) != want {
		t.Errorf("Same: not %t, of %s and %s", want, short(told(a)), short(told(b)))
	}
	if toldRoom(c)+toldRoom(d) != before {
		t.Error("Same has changed what was lent")
	}
	return want
}
