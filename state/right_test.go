package state_test

import (
	"math/rand"
	"slices"
	"strings"
	"testing"

	"escheat/api"
	"escheat/state"
)

// change is one of a state that has some of all, and whether the state may be then.
type change struct {
	what  string
	right bool
	do    func(*api.State)
}

// tried: whether a state may be; one that may not be is refused by each event, and stays as it is.
func tried(t *testing.T, l []change) {
	t.Helper()
	for _, c := range l {
		s := with(c.do)
		if got := likeRight(t, s); got != c.right || state.Right(s) != c.right {
			t.Errorf("%s: Right isn't %t", c.what, c.right)
		}
		want := api.OK
		if !c.right {
			want = api.ErrArg
		}
		if _, e := likeApply(t, s, keep("zz", 0)); e != want {
			t.Errorf("%s: error %d, not %d", c.what, e, want)
		}
	}
}

// P14.1: what the states that the tests begin with are, may be.
func TestRightBases(t *testing.T) {
	for i, s := range []api.State{first(), some(), state.New()} {
		if !likeRight(t, s) || !state.Right(s) {
			t.Errorf("state %d may not be", i)
		}
	}
	if likeRight(t, api.State{}) || state.Right(api.State{}) {
		t.Error("a state of nothing may be")
	}
}

// P14.1: the clock, and the next numbers, at their bounds.
func TestRightNumbers(t *testing.T) {
	l := []change{}
	for _, n := range []int{least, -1, 0, 1, 99, 100, 101, endTime - 1, endTime, endTime + 1, most} {
		l = append(l, change{"Clock", n >= 100 && n <= endTime, func(s *api.State) { s.Clock = n }})
		l = append(l, change{"Clock without tombs", n >= 0 && n <= endTime, func(s *api.State) { s.Clock, s.Tombs = n, nil }})
	}
	for _, n := range []int{least, -1, 0, 1, 2, top - 1, top, top + 1, top + 2, most} {
		low := n >= 1 && n <= top+1
		high := n > 10 && n <= top+1
		l = append(l, change{"NextValid", high, func(s *api.State) { s.NextValid = n }})
		l = append(l, change{"NextTomb", high, func(s *api.State) { s.NextTomb = n }})
		l = append(l, change{"NextHold", high, func(s *api.State) { s.NextHold = n }})
		l = append(l, change{"NextTomb without tombs", low, func(s *api.State) { s.NextTomb, s.Tombs = n, nil }})
		l = append(l, change{"NextHold without holds", low, func(s *api.State) { s.NextHold, s.Holds = n, nil }})
		l = append(l, change{"NextValid of INBOX alone", low && n > 1, func(s *api.State) { s.NextValid, s.Boxes = n, boxesOf(1) }})
	}
	tried(t, l)
}

// P14.1: how many mailboxes there may be, their names and Valids.
func TestRightBoxes(t *testing.T) {
	l := []change{}
	for _, n := range []int{1, 2, 15, 16, 17, 40} {
		l = append(l, change{"boxes", n <= 16, func(s *api.State) { s.Boxes, s.NextValid = boxesOf(n), 50 }})
	}
	l = append(l,
		change{"no box", false, func(s *api.State) { s.Boxes = nil }},
		change{"an empty list of boxes", false, func(s *api.State) { s.Boxes = []api.Box{} }},
		change{"without INBOX", false, func(s *api.State) { s.Boxes = s.Boxes[1:] }},
		change{"INBOX/a in place of INBOX", false, func(s *api.State) { s.Boxes[0].Name = "INBOX/a" }},
		change{"INBOX/a beside INBOX", true, func(s *api.State) { s.Boxes[1].Name = "INBOX/a" }},
		change{"small letters", false, func(s *api.State) { s.Boxes[5].Name = "inbox" }},
		change{"INBOX at another place", true, func(s *api.State) { s.Boxes[0].Name, s.Boxes[1].Name = "A", "INBOX" }},
		change{"the first two of one name", false, func(s *api.State) { s.Boxes[1].Name = "INBOX" }},
		change{"the last two of one name", false, func(s *api.State) { s.Boxes[4].Name = "b" }},
		change{"the first two fall", false, func(s *api.State) { s.Boxes[0], s.Boxes[1] = s.Boxes[1], s.Boxes[0] }},
		change{"the last two fall", false, func(s *api.State) { s.Boxes[5].Name = "aa" }},
		change{"the first and the last one of one Valid", false, func(s *api.State) { s.Boxes[5].Valid = 1 }},
		change{"two neighbours of one Valid", false, func(s *api.State) { s.Boxes[2].Valid = 5 }},
		change{"Valid NextValid - 1", true, func(s *api.State) { s.Boxes[5].Valid = 10 }},
		change{"Valid NextValid", false, func(s *api.State) { s.Boxes[5].Valid = 11 }},
		change{"Valid above NextValid", false, func(s *api.State) { s.Boxes[0].Valid = 12 }},
		change{"Valid MaxUID", true, func(s *api.State) { s.Boxes[3].Valid, s.NextValid = top, top+1 }},
		change{"Valid MaxUID, and next", false, func(s *api.State) { s.Boxes[3].Valid, s.NextValid = top, top }},
	)
	for _, name := range wrongNames {
		l = append(l, change{"box " + name, false, func(s *api.State) { s.Boxes = append(boxesOf(1), api.Box{Name: name, Valid: 3, Next: 1}) }})
		l = append(l, change{"box ahead " + name, false, func(s *api.State) { s.Boxes = append([]api.Box{{Name: name, Valid: 3, Next: 1}}, boxesOf(1)...) }})
	}
	for _, name := range edgeNames {
		l = append(l, change{"box " + name, name != "!", func(s *api.State) { s.Boxes = append(boxesOf(1), api.Box{Name: name, Valid: 3, Next: 1}) }})
	}
	tried(t, l)
}

// P14.1: a mailbox that may not be, whichever it is.
func TestRightBoxInside(t *testing.T) {
	l := []change{}
	for i := range 6 {
		for _, c := range []struct {
			what  string
			right bool
			do    func(*api.Box)
		}{
			{"Valid 0", false, func(b *api.Box) { b.Valid = 0 }},
			{"Valid below 0", false, func(b *api.Box) { b.Valid = -1 }},
			{"Next 0", false, func(b *api.Box) { b.Next, b.Msgs = 0, nil }},
			{"Next 1", true, func(b *api.Box) { b.Next, b.Msgs = 1, nil }},
			{"Next MaxUID + 1", true, func(b *api.Box) { b.Next = top + 1 }},
			{"Next MaxUID + 2", false, func(b *api.Box) { b.Next = top + 2 }},
			{"40 messages", true, func(b *api.Box) { b.Next, b.Msgs = 42, msgs(upTo(40)...) }},
			{"41 messages", false, func(b *api.Box) { b.Next, b.Msgs = 42, msgs(upTo(41)...) }},
			{"a message 0", false, func(b *api.Box) { b.Next, b.Msgs = 9, msgs(0) }},
			{"two of one number", false, func(b *api.Box) { b.Next, b.Msgs = 9, msgs(3, 3) }},
			{"falling numbers", false, func(b *api.Box) { b.Next, b.Msgs = 9, msgs(3, 2) }},
			{"a number below Next", true, func(b *api.Box) { b.Next, b.Msgs = 9, msgs(3, 8) }},
			{"the number Next", false, func(b *api.Box) { b.Next, b.Msgs = 9, msgs(3, 9) }},
			{"flags 32", false, func(b *api.Box) { b.Next, b.Msgs = 9, []api.Msg{{UID: 1, Flags: 32}} }},
			{"a date below 0", false, func(b *api.Box) { b.Next, b.Msgs = 9, []api.Msg{{UID: 1, Date: -1}} }},
			{"the last date", true, func(b *api.Box) { b.Next, b.Msgs = 9, []api.Msg{{UID: 1, Date: endTime}} }},
			{"a date above", false, func(b *api.Box) { b.Next, b.Msgs = 9, []api.Msg{{UID: 1, Date: endTime + 1}} }},
			{"2000 bytes", true, func(b *api.Box) { b.Next, b.Msgs = 9, []api.Msg{{UID: 1, Body: make([]byte, 2000)}} }},
			{"2001 bytes", false, func(b *api.Box) { b.Next, b.Msgs = 9, []api.Msg{{UID: 1, Body: make([]byte, 2001)}} }},
		} {
			l = append(l, change{c.what, c.right, func(s *api.State) { c.do(&s.Boxes[i]) }})
		}
	}
	tried(t, l)
}

// P14.1: subscribed names, and rules.
func TestRightNames(t *testing.T) {
	l := []change{}
	for _, n := range []int{0, 1, 15, 16, 17, 30} {
		l = append(l, change{"subs", n <= 16, func(s *api.State) { s.Subs = append(namesOf(n), "zz")[:n:n] }})
		l = append(l, change{"rules", n <= 16, func(s *api.State) { s.Rules = rulesOf(n) }})
	}
	for i, names := range [][]string{{"b", "a"}, {"a", "a"}, {"a", "b", "b"}, {"a", "c", "b"}, {"a/b", "a"}, {"a", "B"}, {"a", "A"}, {"gone", "INBOX"}} {
		l = append(l, change{"subs don't rise", false, func(s *api.State) { s.Subs = names }})
		l = append(l, change{"rules don't rise", false, func(s *api.State) {
			s.Rules = nil
			for _, name := range names {
				s.Rules = append(s.Rules, api.Rule{Box: name, Keep: i + 1})
			}
		}})
	}
	for _, name := range append(slices.Clone(wrongNames), edgeNames...) {
		right := slices.Contains(edgeNames, name)
		if name > "gone" {
			l = append(l, change{"sub " + name, right, func(s *api.State) { s.Subs = append(s.Subs, name) }})
		} else {
			l = append(l, change{"sub " + name, right, func(s *api.State) { s.Subs = []string{name, "gone"} }})
		}
		l = append(l, change{"rule " + name, right, func(s *api.State) { s.Rules = []api.Rule{{Box: name, Keep: 5}} }})
	}
	for _, n := range []int{least, -1, 0, 1, 2, endTime - 1, endTime, endTime + 1, most} {
		l = append(l, change{"first Keep", n >= 1 && n <= endTime, func(s *api.State) { s.Rules[0].Keep = n }})
		l = append(l, change{"last Keep", n >= 1 && n <= endTime, func(s *api.State) { s.Rules[1].Keep = n }})
	}
	tried(t, l)
}

// P14.1: tombs: how many, their IDs, names, times and messages.
func TestRightTombs(t *testing.T) {
	l := []change{}
	for _, n := range []int{0, 1, 59, 60, 61, 90} {
		l = append(l, change{"tombs", n <= 60, func(s *api.State) { s.Tombs, s.NextTomb = tombsOf(n, "a"), 100 }})
	}
	for i, c := range []struct {
		ids   []int
		right bool
	}{
		{[]int{1, 2, 3, 9}, true}, {[]int{6, 7, 8, 9}, true}, {[]int{0, 4, 7, 8}, false}, {[]int{-1, 4, 7, 8}, false}, {[]int{3, 3, 7, 8}, false}, {[]int{3, 4, 8, 8}, false},
		{[]int{4, 3, 7, 8}, false}, {[]int{3, 4, 8, 7}, false}, {[]int{3, 4, 7, 10}, false}, {[]int{3, 4, 7, 11}, false}, {[]int{3, 4, 10, 8}, false}, {[]int{least, 4, 7, 8}, false}, {[]int{3, 4, 7, most}, false},
	} {
		l = append(l, change{"tombs' IDs " + string(rune('a'+i)), c.right, func(s *api.State) {
			for i := range s.Tombs {
				s.Tombs[i].ID = c.ids[i]
			}
		}})
	}
	for i := range 4 {
		for _, n := range []int{least, -1, 0, 99, 100, 101, most} {
			l = append(l, change{"At", n >= 0 && n <= 100, func(s *api.State) { s.Tombs[i].At = n }})
		}
		for _, name := range append(slices.Clone(wrongNames), edgeNames...) {
			l = append(l, change{"tomb of " + name, slices.Contains(edgeNames, name), func(s *api.State) { s.Tombs[i].Box = name }})
		}
		for _, c := range []struct {
			m     api.Msg
			right bool
		}{
			{api.Msg{UID: 1}, true}, {api.Msg{UID: 0}, false}, {api.Msg{UID: -1}, false}, {api.Msg{UID: top}, true}, {api.Msg{UID: top + 1}, false}, {api.Msg{UID: most}, false}, {api.Msg{UID: least}, false}, {api.Msg{}, false},
			{api.Msg{UID: 1, Flags: 31}, true}, {api.Msg{UID: 1, Flags: 32}, false}, {api.Msg{UID: 1, Flags: -1}, false},
			{api.Msg{UID: 1, Date: endTime}, true}, {api.Msg{UID: 1, Date: endTime + 1}, false}, {api.Msg{UID: 1, Date: -1}, false},
			{api.Msg{UID: 1, Body: make([]byte, 2000)}, true}, {api.Msg{UID: 1, Body: make([]byte, 2001)}, false},
		} {
			l = append(l, change{"a tomb's message", c.right, func(s *api.State) { s.Tombs[i].Msg = c.m }})
		}
	}
	l = append(l,
		change{"tombs of one message's number", true, func(s *api.State) { s.Tombs[1] = api.Tomb{ID: 4, Box: "a", Msg: msg(1, "")} }},
		change{"a tomb of a number that is a message's", true, func(s *api.State) { s.Tombs[0].Msg.UID = 2 }},
		change{"a tomb of a number that wasn't given yet", true, func(s *api.State) { s.Tombs[0].Msg.UID = 900 }},
		change{"a tomb MaxUID", true, func(s *api.State) { s.Tombs[3].ID, s.NextTomb = top, top+1 }},
	)
	tried(t, l)
}

// P14.1: holds: how many, their IDs, names and Sets.
func TestRightHolds(t *testing.T) {
	l := []change{}
	for _, n := range []int{0, 1, 15, 16, 17, 40} {
		l = append(l, change{"holds", n <= 16, func(s *api.State) { s.Holds, s.NextHold = holdsOf(n), 60 }})
	}
	for _, c := range []struct {
		one, two int
		right    bool
	}{
		{1, 2, true}, {1, 5, true}, {4, 5, true}, {0, 2, false}, {-1, 2, false}, {2, 2, false}, {3, 2, false}, {2, 6, false}, {2, 7, false}, {6, 7, false}, {least, 2, false}, {2, most, false},
	} {
		l = append(l, change{"holds' IDs", c.right, func(s *api.State) { s.Holds[0].ID, s.Holds[1].ID = c.one, c.two }})
	}
	for i := range 2 {
		for _, name := range append(slices.Clone(wrongNames), edgeNames...) {
			l = append(l, change{"hold of " + name, slices.Contains(edgeNames, name), func(s *api.State) { s.Holds[i].Box = name }})
		}
		for _, c := range []struct {
			set   []api.Range
			right bool
		}{
			{nil, true}, {ends(), true}, {ends(1, 1), true}, {ends(0, 0), true}, {ends(9, 3), true}, {ends(0, 3), true}, {ends(top, top), true}, {ends(1, top, 1, top), true},
			{slices.Repeat(ends(5, 5), 60), true}, {slices.Repeat(ends(5, 5), 61), false}, {slices.Repeat(ends(5, 5), 300), false},
			{ends(-1, 1), false}, {ends(1, -1), false}, {ends(top+1, 1), false}, {ends(1, top+1), false}, {ends(1, 1, -1, 1), false}, {ends(1, 1, 2, top+1), false}, {ends(least, 0), false}, {ends(0, most), false},
			{append(slices.Repeat(ends(5, 5), 59), ends(1, -1)...), false},
		} {
			l = append(l, change{"a hold's Set", c.right, func(s *api.State) { s.Holds[i].Set = c.set }})
		}
	}
	l = append(l, change{"a hold MaxUID", true, func(s *api.State) { s.Holds[1].ID, s.NextHold = top, top+1 }})
	tried(t, l)
}

// someNum: near a bound of one sort or another.
func someNum(r *rand.Rand) int {
	l := []int{least, -1, 0, 1, 2, 5, 9, 10, 11, 99, 100, 101, top - 1, top, top + 1, top + 2, endTime, endTime + 1, most}
	return l[r.Intn(len(l))]
}

func someName(r *rand.Rand) string {
	l := append([]string{"INBOX", "a", "a/b", "ab", "b", "gone", "z"}, append(slices.Clone(wrongNames), edgeNames...)...)
	return l[r.Intn(len(l))]
}

// spoilt changes one thing of a state to another one, by chance.
func spoilt(r *rand.Rand, s *api.State) {
	b, x, h := &s.Boxes[r.Intn(6)], &s.Tombs[r.Intn(4)], &s.Holds[r.Intn(2)]
	ints := []*int{&s.Clock, &s.NextValid, &s.NextTomb, &s.NextHold, &b.Valid, &b.Next, &x.ID, &x.At, &x.Msg.UID, &x.Msg.Flags, &x.Msg.Date, &h.ID, &s.Rules[r.Intn(2)].Keep}
	texts := []*string{&b.Name, &x.Box, &h.Box, &s.Subs[r.Intn(2)], &s.Rules[r.Intn(2)].Box}
	if len(b.Msgs) > 0 {
		m := &b.Msgs[r.Intn(len(b.Msgs))]
		ints = append(ints, &m.UID, &m.Flags, &m.Date)
	}
	if len(h.Set) > 0 {
		ints = append(ints, &h.Set[0].From, &h.Set[0].To)
	}
	if i := r.Intn(len(ints) + len(texts)); i < len(ints) {
		*ints[i] = someNum(r)
	} else {
		*texts[i-len(ints)] = someName(r)
	}
}

// P14.1: a state of which one thing, or two, are others, by chance.
func TestRightChance(t *testing.T) {
	r := rand.New(rand.NewSource(141))
	n := map[bool]int{}
	for range 20000 {
		s := lent(some())
		for range 1 + r.Intn(2) {
			spoilt(r, &s)
		}
		n[likeRight(t, s)]++
	}
	if n[true] < 2000 || n[false] < 2000 {
		t.Errorf("too few of one sort: %v", n)
	}
}

// P14.1: lists far too long are refused, and ended with.
func TestRightLong(t *testing.T) {
	s := some()
	s.Subs = strings.Split(strings.Repeat("a,", 5000), ",")
	s.Tombs = tombsOf(3000, "a")
	if likeRight(t, s) {
		t.Error("thousands of tombs may be")
	}
	likeApply(t, s, create("z"))
}
