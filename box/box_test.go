package box_test

import (
	"math/rand"
	"slices"
	"strings"
	"testing"

	"escheat/api"
	"escheat/box"
)

// bytesOf: so many.
func bytesOf(n int) []byte { return []byte(strings.Repeat("xyz", n/3+1))[:n] }

// msg is a message of a number, unlike those of others.
func msg(uid int) api.Msg {
	n := int(uint(uid) % 10000)
	return api.Msg{UID: uid, Flags: n % 32, Date: n * 7, Body: []byte(strings.Repeat("m", n%5+1) + string(rune('a'+n%26)))}
}

// boxOf is a mailbox of messages of these numbers.
func boxOf(next int, uids ...int) api.Box {
	b := api.Box{Name: "a/b", Valid: 3, Next: next}
	for _, uid := range uids {
		b.Msgs = append(b.Msgs, msg(uid))
	}
	return b
}

// many is a mailbox of so many messages, from 1 on.
func many(n, next int) api.Box {
	uids := []int{}
	for i := range n {
		uids = append(uids, i+1)
	}
	return boxOf(next, uids...)
}

// top40 is a full mailbox whose last message has the number ahead of Next.
func top40(next int) api.Box {
	b := many(40, next)
	b.Msgs[39].UID = next - 1
	return b
}

// answered: an answer has this error; beside one the mailbox is what was handed in, and there is nothing else.
func answered(t *testing.T, what string, b api.Box, a answer, e api.Errno) {
	t.Helper()
	if a.e != e {
		t.Errorf("%s: error %d, not %d", what, a.e, e)
	}
	if e != api.OK && (a.uid != 0 || len(a.msgs) != 0 || told(a.box) != told(b)) {
		t.Errorf("%s: beside an error stands %s", what, short(a.String()))
	}
}

// rightIs: a mailbox may be, or not; where it may not, what changes it is refused, and all calls go by the model.
func rightIs(t *testing.T, what string, b api.Box, want bool) {
	t.Helper()
	lent := ownBox(b)
	before := toldRoom(lent)
	if got, own := box.Right(lent), ownRight(b); got != want || own != want || toldRoom(lent) != before {
		t.Errorf("Right of %s: %t, the model %t, not %t; or it has changed it", what, got, own, want)
	}
	add, store, take := likeAdd(t, b, msg(8)), likeStore(t, b, nil, 0, 0), likeTake(t, b, nil)
	if !want {
		answered(t, "Add to "+what, b, add, api.ErrArg)
		answered(t, "Store in "+what, b, store, api.ErrArg)
		answered(t, "Take of "+what, b, take, api.ErrArg)
		answered(t, "Store of one in "+what, b, likeStore(t, b, []int{1}, 0, 0), api.ErrArg)
		answered(t, "Take of one of "+what, b, likeTake(t, b, []int{1}), api.ErrArg)
		answered(t, "Add of what may not be to "+what, b, likeAdd(t, b, api.Msg{Flags: 32}), api.ErrArg)
	} else if store.e != api.OK || take.e != api.OK || told(store.box) != told(b) || told(take.box) != told(b) || len(take.msgs) != 0 {
		t.Errorf("%s: no numbers are refused, or change something", what)
	}
	likeCopy(t, b)
	likeUIDs(t, b)
	likeSame(t, b, b)
}

// edge is what a number may be, or not.
type edge struct {
	n  int
	ok bool
}

var (
	uidEdges  = []edge{{0, false}, {1, true}, {2, true}, {top - 1, true}, {top, true}, {top + 1, false}, {top + 2, false}, {-1, false}, {1 << 33, false}, {1<<32 + 2, false}, {least, false}, {least + 1, false}, {most, false}}
	flagEdges = []edge{{-1, false}, {0, true}, {1, true}, {15, true}, {16, true}, {31, true}, {32, false}, {33, false}, {64, false}, {-32, false}, {1 << 32, false}, {1<<40 + 1, false}, {least, false}, {most, false}}
	dateEdges = []edge{{-1, false}, {0, true}, {1, true}, {endTime - 1, true}, {endTime, true}, {endTime + 1, false}, {1 << 41, false}, {least, false}, {most, false}}
	bodyEdges = []edge{{0, true}, {1, true}, {1999, true}, {2000, true}, {2001, false}, {2002, false}, {100000, false}}
)

// P11.1, P11.2: the chapter's example: two are added to a mailbox of Next 5, then 5 is taken.
func TestExample(t *testing.T) {
	b := api.Box{Name: "a", Valid: 1, Next: 5}
	for i, s := range []string{"one", "two"} {
		a := likeAdd(t, b, api.Msg{Flags: i, Date: 9, Body: []byte(s)})
		if a.e != api.OK || a.uid != 5+i || a.box.Next != 6+i || len(a.box.Msgs) != i+1 {
			t.Fatal(a)
		}
		b = a.box
	}
	if l := likeUIDs(t, b); !slices.Equal(l, []int{5, 6}) {
		t.Error(l)
	}
	a := likeTake(t, b, []int{5})
	if a.e != api.OK || box.Place(a.box, 6) != 1 || box.Place(a.box, 5) != 0 || told(a.box) != `"a" 1 7: (6 1 9 "two")` || toldMsgs(a.msgs) != ` (5 0 9 "one")` {
		t.Error(a)
	}
}

// P11.1: a mailbox' own numbers, and any name.
func TestRightBox(t *testing.T) {
	for _, x := range uidEdges {
		b := boxOf(12, 2, 5, 9)
		b.Valid = x.n
		rightIs(t, "Valid", b, x.ok)
		b.Msgs = nil
		rightIs(t, "Valid of none", b, x.ok)
		rightIs(t, "Next of none", boxOf(x.n), x.ok || x.n == top+1)
	}
	rightIs(t, "nothing", api.Box{}, false)
	for _, s := range []string{"", "a", "INBOX", "inbox", "a//b", "/", " ", "(*)", "\x00", "\xff\xfe", "ä", strings.Repeat("n", 41), strings.Repeat("n", 100000)} {
		b := boxOf(12, 2, 5, 9)
		b.Name = s
		rightIs(t, "a name", b, true)
		if a := likeAdd(t, b, msg(1)); a.e != api.OK || a.box.Name != s {
			t.Errorf("Add: the name %.20q has become %.20q, %d", s, a.box.Name, a.e)
		}
	}
}

// P11.1: messages in a mailbox: each of their numbers, at each place.
func TestRightMessages(t *testing.T) {
	for _, x := range uidEdges {
		rightIs(t, "a number", boxOf(top+1, x.n), x.ok)
	}
	for i := range 3 {
		for _, x := range flagEdges {
			b := boxOf(12, 2, 5, 9)
			b.Msgs[i].Flags = x.n
			rightIs(t, "flags", b, x.ok)
		}
		for _, x := range dateEdges {
			b := boxOf(12, 2, 5, 9)
			b.Msgs[i].Date = x.n
			rightIs(t, "a date", b, x.ok)
		}
		for _, x := range bodyEdges {
			b := boxOf(12, 2, 5, 9)
			b.Msgs[i].Body = bytesOf(x.n)
			rightIs(t, "a body", b, x.ok)
		}
		b := boxOf(12, 2, 5, 9)
		b.Msgs[i].Body = nil
		rightIs(t, "no body", b, true)
	}
}

// P11.1: at most 40 messages.
func TestRightCounts(t *testing.T) {
	for _, n := range []int{0, 1, 2, 38, 39, 40, 41, 42, 80, 1000} {
		rightIs(t, "many", many(n, n+1), n <= 40)
		rightIs(t, "many", many(n, top+1), n <= 40)
	}
	b := boxOf(1)
	b.Msgs = []api.Msg{}
	rightIs(t, "an empty list", b, true)
	b = many(40, 41)
	for i := range b.Msgs {
		b.Msgs[i].Body = bytesOf(2000)
	}
	rightIs(t, "as much as may be", b, true)
}

// P11.1: numbers rise, and are below Next.
func TestRightNumbers(t *testing.T) {
	for _, x := range []struct {
		b    api.Box
		want bool
	}{
		{boxOf(3, 1, 2), true}, {boxOf(3, 2, 1), false}, {boxOf(3, 2, 2), false}, {boxOf(3, 1, 1), false},
		{boxOf(9, 2, 5, 8), true}, {boxOf(9, 5, 2, 8), false}, {boxOf(9, 2, 8, 5), false}, {boxOf(9, 2, 2, 8), false}, {boxOf(9, 2, 8, 8), false}, {boxOf(9, 8, 5, 2), false}, {boxOf(9, 5, 8, 2), false},
		{boxOf(8, 2, 5, 8), false}, {boxOf(7, 2, 5, 8), false}, {boxOf(1, 2, 5, 8), false}, {boxOf(9, 9), false}, {boxOf(9, 10), false}, {boxOf(9, 8), true}, {boxOf(1, 1), false}, {boxOf(2, 1), true},
		{boxOf(9, 2, 9, 8), false}, {boxOf(9, 10, 5, 8), false}, {boxOf(9, 2, 10, 8), false}, {boxOf(9, 0, 5, 8), false}, {boxOf(9, 2, 5, 0), false}, {boxOf(9, -1, 5, 8), false}, {boxOf(9, 2, -1, 8), false},
		{boxOf(top, top-1), true}, {boxOf(top, top), false}, {boxOf(top+1, top-1, top), true}, {boxOf(top+1, top, top), false}, {boxOf(top+1, top, top+1), false}, {boxOf(top+2, top), false}, {boxOf(top+2, top, top+1), false},
		{boxOf(most, 1), false}, {boxOf(least, 1), false}, {boxOf(0, 1), false},
	} {
		rightIs(t, told(x.b), x.b, x.want)
	}
	for i := range 39 {
		b := many(40, 41)
		b.Msgs[i], b.Msgs[i+1] = b.Msgs[i+1], b.Msgs[i]
		rightIs(t, "two that fall", b, false)
		b.Msgs[i+1].UID = b.Msgs[i].UID
		rightIs(t, "two that are equal", b, false)
	}
}

// P11.1: a message of any number becomes the last one, with the number Next, which is one more then.
func TestAdd(t *testing.T) {
	for _, uid := range []int{0, 1, 2, 4, 5, 6, -1, top, top + 1, 1 << 40, least, most} {
		m := api.Msg{UID: uid, Flags: 9, Date: 4, Body: []byte("new")}
		if a := likeAdd(t, boxOf(5, 2), m); a.e != api.OK || a.uid != 5 || told(a.box) != `"a/b" 3 6: (2 2 14 "mmmc") (5 9 4 "new")` {
			t.Errorf("a message of number %d: %v", uid, a)
		}
	}
	for n := range 40 {
		a := likeAdd(t, many(n, 50), msg(7))
		if a.e != api.OK || a.uid != 50 || a.box.Next != 51 || len(a.box.Msgs) != n+1 || a.box.Msgs[n].UID != 50 || a.box.Valid != 3 {
			t.Errorf("the first behind %d: %s", n, short(a.String()))
		}
	}
	for _, next := range []int{1, 2, top - 1, top} {
		if a := likeAdd(t, boxOf(next), msg(7)); a.e != api.OK || a.uid != next || a.box.Next != next+1 || !box.Right(a.box) {
			t.Errorf("Next %d: %v", next, a)
		}
	}
}

// P11.1: a message that is added must be one, whatever its number.
func TestAddEdges(t *testing.T) {
	tried := func(b api.Box, m api.Msg, ok bool) {
		t.Helper()
		a := likeAdd(t, b, m)
		e := api.OK
		if !ok {
			e = api.ErrArg
		}
		answered(t, "a message", b, a, e)
	}
	for _, b := range []api.Box{boxOf(1), boxOf(12, 2, 5, 9), many(39, 40), boxOf(top, 1)} {
		for _, uid := range []int{0, 1, -1, top + 1} {
			for _, x := range flagEdges {
				tried(b, api.Msg{UID: uid, Flags: x.n}, x.ok)
			}
			for _, x := range dateEdges {
				tried(b, api.Msg{UID: uid, Date: x.n}, x.ok)
			}
			for _, x := range bodyEdges {
				tried(b, api.Msg{UID: uid, Body: bytesOf(x.n)}, x.ok)
			}
			tried(b, api.Msg{UID: uid}, true)
			tried(b, api.Msg{UID: uid, Flags: 31, Date: endTime, Body: bytesOf(2000)}, true)
			tried(b, api.Msg{UID: uid, Flags: 32, Date: -1, Body: bytesOf(2001)}, false)
		}
	}
}

// P11.1: what Add refuses, and which error comes first.
func TestAddRefused(t *testing.T) {
	good := []api.Msg{{}, {UID: 3, Flags: 31, Date: endTime, Body: bytesOf(2000)}, {UID: most}}
	bad := []api.Msg{{Flags: 32}, {Flags: -1}, {Date: -1}, {Date: endTime + 1}, {Body: bytesOf(2001)}}
	for _, x := range []struct {
		what      string
		b         api.Box
		good, bad api.Errno
	}{
		{"no number left", boxOf(top + 1), api.ErrUsed, api.ErrArg},
		{"no number left", boxOf(top+1, 1, top), api.ErrUsed, api.ErrArg},
		{"no number left, one too few", many(39, top+1), api.ErrUsed, api.ErrArg},
		{"full, and no number left", many(40, top+1), api.ErrUsed, api.ErrArg},
		{"full, and no number left", top40(top + 1), api.ErrUsed, api.ErrArg},
		{"full", many(40, 41), api.ErrFull, api.ErrArg},
		{"full", many(40, 1000), api.ErrFull, api.ErrArg},
		{"full, and one number left", many(40, top), api.ErrFull, api.ErrArg},
		{"full, and one number left", top40(top), api.ErrFull, api.ErrArg},
		{"too full", many(41, 42), api.ErrArg, api.ErrArg},
		{"too full, and no number left", many(41, top+1), api.ErrArg, api.ErrArg},
		{"beyond the numbers", boxOf(top + 2), api.ErrArg, api.ErrArg},
		{"beyond the numbers, and full", many(40, top+2), api.ErrArg, api.ErrArg},
		{"not one, and full", many(40, 40), api.ErrArg, api.ErrArg},
		{"nothing", api.Box{}, api.ErrArg, api.ErrArg},
		{"one that has room", many(39, top), api.OK, api.ErrArg},
	} {
		for _, m := range good {
			answered(t, x.what, x.b, likeAdd(t, x.b, m), x.good)
		}
		for _, m := range bad {
			answered(t, x.what, x.b, likeAdd(t, x.b, m), x.bad)
		}
	}
}

// P11.1: flags of messages, in each mode.
func TestStore(t *testing.T) {
	flags := func(b api.Box) []int {
		l := []int{}
		for _, m := range b.Msgs {
			l = append(l, m.Flags)
		}
		return l
	}
	b := boxOf(12, 2, 5, 9)
	b.Msgs[0].Flags, b.Msgs[1].Flags, b.Msgs[2].Flags = 0, 9, 31
	for _, x := range []struct {
		ids         []int
		mode, flags int
		want        []int
	}{
		{nil, 0, 4, []int{0, 9, 31}}, {[]int{}, 1, 4, []int{0, 9, 31}}, {[]int{}, 2, 4, []int{0, 9, 31}},
		{[]int{2}, 0, 4, []int{4, 9, 31}}, {[]int{5}, 0, 4, []int{0, 4, 31}}, {[]int{9}, 0, 4, []int{0, 9, 4}},
		{[]int{2, 5, 9}, 0, 6, []int{6, 6, 6}}, {[]int{9, 5, 2}, 0, 6, []int{6, 6, 6}}, {[]int{9, 2}, 0, 6, []int{6, 9, 6}},
		{[]int{2, 5, 9}, 0, 0, []int{0, 0, 0}}, {[]int{2, 5, 9}, 0, 31, []int{31, 31, 31}},
		{[]int{2, 5, 9}, 1, 6, []int{6, 15, 31}}, {[]int{9, 5, 2}, 1, 1, []int{1, 9, 31}}, {[]int{5}, 1, 6, []int{0, 15, 31}}, {[]int{2, 5, 9}, 1, 0, []int{0, 9, 31}},
		{[]int{2, 5, 9}, 2, 10, []int{0, 1, 21}}, {[]int{9, 5}, 2, 1, []int{0, 8, 30}}, {[]int{9}, 2, 31, []int{0, 9, 0}}, {[]int{2, 5, 9}, 2, 0, []int{0, 9, 31}},
		{[]int{5, 5}, 0, 2, []int{0, 2, 31}}, {[]int{5, 5}, 1, 2, []int{0, 11, 31}}, {[]int{5, 5}, 2, 1, []int{0, 8, 31}}, {[]int{5, 9, 5, 9, 5}, 2, 8, []int{0, 1, 23}},
	} {
		a := likeStore(t, b, x.ids, x.mode, x.flags)
		if got := flags(a.box); a.e != api.OK || !slices.Equal(got, x.want) {
			t.Errorf("Store(%v, %d, %d): %v, %d, not %v", x.ids, x.mode, x.flags, got, a.e, x.want)
		}
		if again := likeStore(t, a.box, x.ids, x.mode, x.flags); told(again.box) != told(a.box) {
			t.Errorf("Store(%v, %d, %d), twice: %v", x.ids, x.mode, x.flags, again)
		}
		for i := range a.box.Msgs {
			a.box.Msgs[i].Flags = b.Msgs[i].Flags
		}
		if told(a.box) != told(b) {
			t.Errorf("Store(%v, %d, %d) has changed more than flags: %v", x.ids, x.mode, x.flags, a)
		}
	}
}

// P11.1: all flags, with all flags, in modes -1 to 3.
func TestStoreAll(t *testing.T) {
	for was := range 32 {
		b := boxOf(9, 3, 7)
		b.Msgs[1].Flags = was
		for more := -2; more <= 34; more++ {
			for mode := -1; mode <= 3; mode++ {
				likeStore(t, b, []int{7}, mode, more)
			}
		}
	}
}

// missing are numbers that boxOf(12, 2, 5, 9) has none of.
var missing = []int{1, 3, 4, 6, 8, 10, 11, 12, 13, 0, -1, -2, -5, top, 1<<32 + 2, 1<<32 + 5, least, most}

// P11.1: what Store refuses, and which error comes first.
func TestStoreRefused(t *testing.T) {
	b, wrong := boxOf(12, 2, 5, 9), boxOf(12, 2, 12)
	lists := [][]int{nil, {}, {2}, {2, 5, 9}, {5, 5}, {3}, {2, 3}}
	for _, ids := range lists {
		for _, mode := range []int{-1, 3, 4, -2, 256, 1 << 32, 1<<32 + 1, least, most} {
			for _, flags := range []int{0, 9, 31, 32} {
				answered(t, "a mode", b, likeStore(t, b, ids, mode, flags), api.ErrArg)
				answered(t, "a mode in a wrong one", wrong, likeStore(t, wrong, ids, mode, flags), api.ErrArg)
			}
		}
		for _, x := range flagEdges {
			for mode := range 3 {
				a := likeStore(t, b, ids, mode, x.n)
				there := len(ids) == 0 || !slices.Contains(ids, 3)
				switch {
				case !x.ok:
					answered(t, "flags", b, a, api.ErrArg)
				case !there:
					answered(t, "numbers", b, a, api.ErrNone)
				default:
					answered(t, "nothing wrong", b, a, api.OK)
				}
				answered(t, "flags in a wrong one", wrong, likeStore(t, wrong, ids, mode, x.n), api.ErrArg)
			}
		}
	}
	for _, id := range missing {
		for mode := range 3 {
			for _, ids := range [][]int{{id}, {id, 2}, {2, id}, {2, id, 9}, {9, 5, 2, id}, {id, id}, {id, 2, 5, 9}} {
				answered(t, "a number that isn't there", b, likeStore(t, b, ids, mode, 4), api.ErrNone)
			}
		}
	}
	none := boxOf(12)
	answered(t, "none there", none, likeStore(t, none, []int{2}, 0, 4), api.ErrNone)
	answered(t, "none there, none asked", none, likeStore(t, none, nil, 0, 4), api.OK)
}

// P11.1: messages go, and are told by their numbers; Next stays.
func TestTake(t *testing.T) {
	b := boxOf(12, 2, 5, 9)
	for _, x := range []struct{ ids, left, taken []int }{
		{nil, []int{2, 5, 9}, nil}, {[]int{}, []int{2, 5, 9}, nil},
		{[]int{2}, []int{5, 9}, []int{2}}, {[]int{5}, []int{2, 9}, []int{5}}, {[]int{9}, []int{2, 5}, []int{9}},
		{[]int{2, 5}, []int{9}, []int{2, 5}}, {[]int{5, 2}, []int{9}, []int{2, 5}}, {[]int{9, 2}, []int{5}, []int{2, 9}},
		{[]int{2, 5, 9}, nil, []int{2, 5, 9}}, {[]int{9, 5, 2}, nil, []int{2, 5, 9}}, {[]int{5, 9, 2}, nil, []int{2, 5, 9}},
		{[]int{5, 5}, []int{2, 9}, []int{5}}, {[]int{9, 2, 9, 2, 9}, []int{5}, []int{2, 9}},
	} {
		a := likeTake(t, b, x.ids)
		taken := api.Box{Msgs: a.msgs}
		if a.e != api.OK || !slices.Equal(likeUIDs(t, a.box), x.left) || !slices.Equal(likeUIDs(t, taken), x.taken) || a.box.Next != 12 || a.box.Valid != 3 || a.box.Name != "a/b" {
			t.Errorf("Take(%v): %v", x.ids, a)
		}
		for _, m := range slices.Concat(a.box.Msgs, a.msgs) {
			if was, ok := likeFind(t, b, m.UID); !ok || toldMsgs([]api.Msg{was}) != toldMsgs([]api.Msg{m}) {
				t.Errorf("Take(%v): message %d is another one", x.ids, m.UID)
			}
		}
	}
	if a := likeTake(t, many(40, 41), likeUIDs(t, many(40, 41))); a.e != api.OK || len(a.box.Msgs) != 0 || len(a.msgs) != 40 || a.box.Next != 41 {
		t.Error("forty:", short(a.String()))
	}
}

// P11.1: what Take refuses, and which error comes first.
func TestTakeRefused(t *testing.T) {
	b, wrong := boxOf(12, 2, 5, 9), boxOf(12, 2, 12)
	for _, id := range missing {
		for _, ids := range [][]int{{id}, {id, 2}, {2, id}, {2, id, 9}, {9, 5, 2, id}, {id, id}, {id, 2, 5, 9}} {
			answered(t, "a number that isn't there", b, likeTake(t, b, ids), api.ErrNone)
			answered(t, "one of a wrong one", wrong, likeTake(t, wrong, ids), api.ErrArg)
		}
	}
	none := boxOf(12)
	answered(t, "none there", none, likeTake(t, none, []int{2}), api.ErrNone)
	answered(t, "none there, none asked", none, likeTake(t, none, nil), api.OK)
}

// P11.1: very many numbers, each many times.
func TestManyNumbers(t *testing.T) {
	ids := []int{}
	for i := range 200000 {
		ids = append(ids, 30-i%30)
	}
	b := many(40, 50)
	if a := likeTake(t, b, ids); a.e != api.OK || len(a.msgs) != 30 || len(a.box.Msgs) != 10 {
		t.Error("Take:", short(a.String()))
	}
	if a := likeStore(t, b, ids, 0, 16); a.e != api.OK || likeCount(t, a.box, 16) != 31 {
		t.Error("Store:", short(a.String()))
	}
	ids = append(ids, 41)
	answered(t, "Take", b, likeTake(t, b, ids), api.ErrNone)
	answered(t, "Store", b, likeStore(t, b, ids, 0, 16), api.ErrNone)
}

// P11.1: messages are found by their numbers, the first one of those that share one, in whatever mailbox.
func TestFind(t *testing.T) {
	b := boxOf(12, 2, 5, 9)
	for i, uid := range []int{2, 5, 9} {
		m, ok := likeFind(t, b, uid)
		if !ok || toldMsgs([]api.Msg{m}) != toldMsgs([]api.Msg{msg(uid)}) || box.Place(b, uid) != i+1 {
			t.Errorf("%d: %v, %t, place %d", uid, m, ok, box.Place(b, uid))
		}
	}
	for _, uid := range missing {
		if m, ok := likeFind(t, b, uid); ok || m.UID != 0 || m.Flags != 0 || m.Date != 0 || len(m.Body) != 0 || box.Place(b, uid) != 0 {
			t.Errorf("%d: %v, %t, place %d", uid, m, ok, box.Place(b, uid))
		}
	}
	odd := api.Box{}
	for i, uid := range []int{7, 3, 7, -5, 0, 3, 0, most, -5, least, most, 7} {
		odd.Msgs = append(odd.Msgs, api.Msg{UID: uid, Flags: 100 + i, Date: -i, Body: bytesOf(i)})
	}
	for uid, place := range map[int]int{7: 1, 3: 2, -5: 4, 0: 5, most: 8, least: 10, 1: 0, 2: 0, -7: 0} {
		m, ok := likeFind(t, odd, uid)
		if got := box.Place(odd, uid); got != place || ok != (place > 0) || ok && m.Flags != 99+place {
			t.Errorf("%d among many: place %d, not %d; %v, %t", uid, got, place, m, ok)
		}
	}
	if _, ok := likeFind(t, api.Box{}, 0); ok {
		t.Error("0 is in a mailbox without messages")
	}
	long := many(1000, 1)
	for i := range long.Msgs {
		long.Msgs[i].UID = i / 2
	}
	if _, ok := likeFind(t, long, 499); !ok || box.Place(long, 499) != 999 {
		t.Error("a long one:", box.Place(long, 499))
	}
}

// P11.1: as many messages as have all bits, in whatever mailbox.
func TestCount(t *testing.T) {
	b := many(32, 33) // of all flags, one each
	for flag, want := range map[int]int{0: 32, 1: 16, 2: 16, 4: 16, 8: 16, 16: 16, 3: 8, 9: 8, 17: 8, 7: 4, 15: 2, 31: 1, 30: 2, 32: 0, 33: 0, -1: 0, -32: 0, 1 << 32: 0, least: 0, most: 0} {
		if got := box.Count(b, flag); got != want || likeCount(t, b, flag) != want {
			t.Errorf("Count of %d: %d, not %d", flag, got, want)
		}
	}
	odd := api.Box{}
	for _, flags := range []int{0, 1, 1, 32, 33, -1, -2, 1 << 40, least, most, -32} {
		odd.Msgs = append(odd.Msgs, api.Msg{UID: 4, Flags: flags})
	}
	for flag, want := range map[int]int{0: 11, 1: 5, 2: 3, 32: 6, 33: 3, -1: 1, -2: 2, -32: 3, 1 << 40: 5, least: 4, most: 2, 31: 2, 64: 4} {
		if got := box.Count(odd, flag); got != want || likeCount(t, odd, flag) != want {
			t.Errorf("Count of %d among odd ones: %d, not %d", flag, got, want)
		}
	}
	if box.Count(api.Box{}, 0) != 0 {
		t.Error("Count of none")
	}
}

// P11.1: numbers as they stand, in whatever mailbox.
func TestUIDs(t *testing.T) {
	for _, uids := range [][]int{nil, {1}, {2, 5, 9}, {9, 5, 2}, {7, 7}, {0, -1, 3}, {top, 1}} {
		if got := likeUIDs(t, boxOf(1, uids...)); !slices.Equal(got, uids) {
			t.Errorf("%v: %v", uids, got)
		}
	}
	if got := likeUIDs(t, api.Box{Msgs: []api.Msg{{UID: least}, {UID: most}}}); !slices.Equal(got, []int{least, most}) {
		t.Error(got)
	}
}

// P11.1: one field that is another one makes two that aren't the same.
func TestSame(t *testing.T) {
	b := boxOf(12, 2, 5, 9)
	same := func(what string, a, b api.Box, want bool) {
		t.Helper()
		if likeSame(t, a, b) != want {
			t.Errorf("%s: not %t", what, want)
		}
	}
	same("itself", b, b, true)
	same("another one of the same", b, boxOf(12, 2, 5, 9), true)
	same("nothing", api.Box{}, api.Box{}, true)
	same("no list and an empty one", api.Box{}, api.Box{Msgs: []api.Msg{}}, true)
	same("no body and an empty one", api.Box{Msgs: []api.Msg{{}}}, api.Box{Msgs: []api.Msg{{Body: []byte{}}}}, true)
	same("none and one that is zero", api.Box{}, api.Box{Msgs: []api.Msg{{}}}, false)
	for _, change := range []func(*api.Box){
		func(b *api.Box) { b.Name = "" }, func(b *api.Box) { b.Name = "A/b" }, func(b *api.Box) { b.Name += "\x00" },
		func(b *api.Box) { b.Valid++ }, func(b *api.Box) { b.Valid = -b.Valid }, func(b *api.Box) { b.Valid += 1 << 32 },
		func(b *api.Box) { b.Next-- }, func(b *api.Box) { b.Next += 1 << 32 },
		func(b *api.Box) { b.Msgs = nil }, func(b *api.Box) { b.Msgs = b.Msgs[:2] }, func(b *api.Box) { b.Msgs = b.Msgs[1:] },
		func(b *api.Box) { b.Msgs = append(b.Msgs, api.Msg{}) }, func(b *api.Box) { b.Msgs = append(b.Msgs, b.Msgs[2]) }, func(b *api.Box) { slices.Reverse(b.Msgs) },
	} {
		c := ownBox(b)
		change(&c)
		same("a mailbox", b, c, false)
		same("itself", c, c, true)
	}
	for _, change := range []func(*api.Msg){
		func(m *api.Msg) { m.UID++ }, func(m *api.Msg) { m.UID += 1 << 32 }, func(m *api.Msg) { m.UID = -m.UID },
		func(m *api.Msg) { m.Flags ^= 16 }, func(m *api.Msg) { m.Flags += 32 }, func(m *api.Msg) { m.Flags += 1 << 32 },
		func(m *api.Msg) { m.Date-- }, func(m *api.Msg) { m.Date += 1 << 40 },
		func(m *api.Msg) { m.Body = nil }, func(m *api.Msg) { m.Body = []byte{} }, func(m *api.Msg) { m.Body = m.Body[1:] }, func(m *api.Msg) { m.Body = m.Body[:1] },
		func(m *api.Msg) { m.Body = append(m.Body, 0) }, func(m *api.Msg) { m.Body[0] = 'M' }, func(m *api.Msg) { m.Body[len(m.Body)-1] ^= 128 },
	} {
		for i := range 3 {
			c := ownBox(b)
			change(&c.Msgs[i])
			same("a message", b, c, false)
			same("itself", c, c, true)
		}
	}
}

// P11.1: a copy is the same, and new memory, of whatever mailbox.
func TestCopy(t *testing.T) {
	for _, b := range []api.Box{
		{}, {Msgs: []api.Msg{}}, {Name: "x", Valid: -1, Next: most}, boxOf(12, 2, 5, 9), boxOf(1, 9, 9, 0), many(41, 42), many(1000, 5),
		{Msgs: []api.Msg{{}, {Body: []byte{}}, {UID: least, Flags: -1, Date: most, Body: bytesOf(2001)}}},
	} {
		a := likeCopy(t, b)
		if told(a.box) != told(b) || !box.Same(box.Copy(b), b) {
			t.Errorf("another one: %s, not %s", short(told(a.box)), short(told(b)))
		}
	}
}

// P11.1: what is handed in and what is answered are apart: writing into the one changes nothing of the other, nor one of an answer another one.
func TestApart(t *testing.T) {
	full := func() (api.Box, api.Msg) {
		b := boxOf(12, 2, 5, 9)
		for i := range b.Msgs {
			b.Msgs[i].Body = []byte("bytes")
		}
		return b, api.Msg{Body: []byte("bytes")}
	}
	for i, call := range []func(api.Box, api.Msg) (api.Box, []api.Msg){
		func(b api.Box, m api.Msg) (api.Box, []api.Msg) { c, _, _ := box.Add(b, m); return c, nil },
		func(b api.Box, m api.Msg) (api.Box, []api.Msg) { m.Flags = 32; c, _, _ := box.Add(b, m); return c, nil },
		func(b api.Box, m api.Msg) (api.Box, []api.Msg) {
			b.Next = top + 1
			c, _, _ := box.Add(b, m)
			return c, nil
		},
		func(b api.Box, m api.Msg) (api.Box, []api.Msg) { b.Valid = 0; c, _, _ := box.Add(b, m); return c, nil },
		func(b api.Box, m api.Msg) (api.Box, []api.Msg) { c, _ := box.Store(b, []int{2}, 1, 1); return c, nil },
		func(b api.Box, m api.Msg) (api.Box, []api.Msg) { c, _ := box.Store(b, nil, 1, 1); return c, nil },
		func(b api.Box, m api.Msg) (api.Box, []api.Msg) { c, _ := box.Store(b, nil, 3, 1); return c, nil },
		func(b api.Box, m api.Msg) (api.Box, []api.Msg) { c, _ := box.Store(b, []int{3}, 1, 1); return c, nil },
		func(b api.Box, m api.Msg) (api.Box, []api.Msg) { c, l, _ := box.Take(b, []int{5}); return c, l },
		func(b api.Box, m api.Msg) (api.Box, []api.Msg) { c, l, _ := box.Take(b, []int{2, 5, 9}); return c, l },
		func(b api.Box, m api.Msg) (api.Box, []api.Msg) { c, l, _ := box.Take(b, nil); return c, l },
		func(b api.Box, m api.Msg) (api.Box, []api.Msg) { c, l, _ := box.Take(b, []int{3}); return c, l },
		func(b api.Box, m api.Msg) (api.Box, []api.Msg) { m, _ = box.Find(b, 5); return api.Box{}, []api.Msg{m} },
		func(b api.Box, m api.Msg) (api.Box, []api.Msg) { return box.Copy(b), nil },
	} {
		b, m := full()
		after, list := call(b, m)
		was := told(after) + toldMsgs(list)
		for j := range b.Msgs {
			b.Msgs[j].Body[0] = 'B'
			b.Msgs[j] = api.Msg{UID: -7}
		}
		m.Body[0] = 'B'
		if told(after)+toldMsgs(list) != was {
			t.Errorf("call %d: what was answered is another one", i)
		}
		b, m = full()
		given := told(b) + string(m.Body)
		after, list = call(b, m)
		for _, l := range [][]api.Msg{after.Msgs, list} {
			for j := range l {
				l[j].Body[0] = 'B'
				l[j] = api.Msg{UID: -7}
			}
		}
		if told(b)+string(m.Body) != given {
			t.Errorf("call %d: what was handed in is another one", i)
		}
	}
}

// some: a number of a mailbox, or one that it hasn't.
func some(r *rand.Rand, b api.Box) int {
	if len(b.Msgs) == 0 || r.Intn(12) == 0 {
		return r.Intn(60) - 2
	}
	return b.Msgs[r.Intn(len(b.Msgs))].UID
}

// someIDs: none to six of them, in any order.
func someIDs(r *rand.Rand, b api.Box) []int {
	ids := []int{}
	for range r.Intn(7) {
		ids = append(ids, some(r, b))
	}
	return ids
}

// someMsg: one that may be.
func someMsg(r *rand.Rand) api.Msg {
	return api.Msg{UID: r.Intn(99) - 9, Flags: r.Intn(32), Date: r.Intn(endTime + 1), Body: bytesOf(r.Intn(9) * r.Intn(2))}
}

// oddMsg: one that may be, or, seldom, may not.
func oddMsg(r *rand.Rand) api.Msg {
	m := someMsg(r)
	switch r.Intn(20) {
	case 0:
		m.Flags = flagEdges[r.Intn(len(flagEdges))].n
	case 1:
		m.Date = dateEdges[r.Intn(len(dateEdges))].n
	case 2:
		m.Body = bytesOf(1999 + r.Intn(3))
	case 3:
		m.Body = nil
	}
	return m
}

// someBox: one that may be, or, seldom, may not.
func someBox(r *rand.Rand) api.Box {
	b := boxOf(1 + r.Intn(3))
	b.Valid = 1 + r.Intn(9)
	for range r.Intn(42) {
		m := someMsg(r)
		m.UID = b.Next
		b.Msgs = append(b.Msgs, m)
		b.Next += 1 + r.Intn(2)*r.Intn(4)
	}
	if len(b.Msgs) > 0 && r.Intn(4) == 0 {
		i := r.Intn(len(b.Msgs))
		uid := b.Msgs[i].UID - r.Intn(2)
		b.Msgs[i] = oddMsg(r)
		b.Msgs[i].UID = uid
	}
	return b
}

// P11.1: mailboxes by chance, most of which may be, and all calls with them.
func TestByChance(t *testing.T) {
	r := rand.New(rand.NewSource(11))
	for range 2000 {
		b := someBox(r)
		rightIs(t, "by chance", b, ownRight(b))
		likeAdd(t, b, oddMsg(r))
		likeStore(t, b, someIDs(r, b), r.Intn(4)-r.Intn(8)/7, r.Intn(33))
		likeTake(t, b, someIDs(r, b))
		likeFind(t, b, some(r, b))
		likeCount(t, b, r.Intn(32)&r.Intn(32))
	}
}

// P11.2: whatever is added, stored and taken, a new message has a greater number than all ahead of it, those that are gone among them.
func TestNumbersRise(t *testing.T) {
	r := rand.New(rand.NewSource(112))
	for _, next := range []int{1, 2, 7, 1 << 31, top - 300, top - 20, top, top + 1} {
		b := boxOf(next)
		last := 0
		for range 1500 {
			switch r.Intn(5) {
			case 0:
				if a := likeTake(t, b, someIDs(r, b)); told(a.box) != told(b) {
					b = a.box
				}
			case 1:
				b = likeStore(t, b, someIDs(r, b), r.Intn(3), r.Intn(32)).box
			case 2: // the last ones go: their numbers are those that might come again
				n := r.Intn(len(b.Msgs) + 1)
				b = likeTake(t, b, box.UIDs(b)[n:]).box
			default:
				a := likeAdd(t, b, oddMsg(r))
				if a.e == api.OK {
					if a.uid <= last || a.uid < next || a.uid > top || a.box.Msgs[len(a.box.Msgs)-1].UID != a.uid {
						t.Fatalf("number %d behind %d", a.uid, last)
					}
					last = a.uid
				} else if a.uid != 0 || told(a.box) != told(b) {
					t.Fatal("refused:", short(a.String()))
				}
				b = a.box
			}
			if !box.Right(b) || b.Next <= last {
				t.Fatal("what is left may not be:", short(told(b)))
			}
		}
	}
}

// P11.2: until no numbers are left; then none is given, though there is room.
func TestNumbersEnd(t *testing.T) {
	b := boxOf(top - 2)
	for uid := top - 2; uid <= top; uid++ {
		a := likeAdd(t, b, msg(1))
		if a.e != api.OK || a.uid != uid || a.box.Next != uid+1 {
			t.Fatal(uid, a)
		}
		b = likeTake(t, a.box, []int{uid}).box
		if b.Next != uid+1 || len(b.Msgs) != 0 {
			t.Fatal(uid, b)
		}
	}
	for range 3 {
		a := likeAdd(t, b, msg(1))
		answered(t, "no numbers", b, a, api.ErrUsed)
		b = a.box
	}
}
