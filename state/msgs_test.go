package state_test

import (
	"slices"
	"strings"
	"testing"

	"escheat/api"
)

// P14.1: EvAppend.
func TestAppend(t *testing.T) {
	isTold(t, "appended", done(t, some(), bring("a", 31, 9, "new")), with(func(s *api.State) {
		s.Boxes[1].Msgs = append(s.Boxes[1].Msgs, api.Msg{UID: 9, Flags: 31, Date: 9, Body: []byte("new")})
		s.Boxes[1].Next = 10
	}))
	for _, e := range []api.Event{bring("b", 0, 0, ""), bring("INBOX", 8, endTime, strings.Repeat("\r\n", 1000)), bring("a/b", 16, 1, "\x00\xff")} {
		s := done(t, some(), e)
		b, _ := likeBox(t, s, e.Box)
		m := b.Msgs[len(b.Msgs)-1]
		if m.Flags != e.Flags || m.Date != e.Date || string(m.Body) != string(e.Body) || m.UID+1 != b.Next {
			t.Errorf("appended: %s", short(told(m)))
		}
	}
	refused(t, some(), api.ErrNone, bring("z", 0, 0, ""), bring("gone", 0, 0, ""), bring("A", 0, 0, ""))
	refused(t, some(), api.ErrArg, bring("a", 32, 0, ""), bring("a", 0, -1, ""), bring("a", 0, 0, strings.Repeat("x", 2001)))
}

// boxOf: a has so many messages, and this next number; b likewise has one.
func boxOf(n, next int) api.State {
	return with(func(s *api.State) {
		s.Boxes[1].Msgs, s.Boxes[1].Next = msgs(upTo(n)...), next
		s.Boxes[5].Msgs, s.Boxes[5].Next = msgs(3, 4, 6), 7
	})
}

// P14.1: layer 11's errors of Add, by EvAppend, EvCopy and EvRestore.
func TestAddErrors(t *testing.T) {
	for _, c := range []struct {
		n, next int
		want    api.Errno
	}{
		{0, 1, api.OK}, {38, 50, api.OK}, {39, 50, api.OK}, {40, 50, api.ErrFull}, {39, top, api.OK}, {39, top + 1, api.ErrUsed}, {0, top + 1, api.ErrUsed}, {40, top, api.ErrFull}, {40, top + 1, api.ErrUsed},
	} {
		s := boxOf(c.n, c.next)
		for _, e := range []api.Event{bring("a", 1, 2, "new"), copies("b", "a", 4), restore(3)} {
			after, f := likeApply(t, s, e)
			if f != c.want {
				t.Errorf("kind %d, %d messages, next %d: error %d, not %d", e.Kind, c.n, c.next, f, c.want)
			}
			if b, _ := likeBox(t, after, "a"); f == api.OK && (b.Next != c.next+1 || len(b.Msgs) != c.n+1 || b.Msgs[c.n].UID != c.next) {
				t.Errorf("kind %d, %d messages, next %d: %d, next %d", e.Kind, c.n, c.next, len(b.Msgs), b.Next)
			}
		}
	}
}

// P14.1: EvStore.
func TestStore(t *testing.T) {
	flags := func(s api.State) []int {
		l := []int{}
		for _, m := range s.Boxes[1].Msgs {
			l = append(l, m.Flags)
		}
		return l
	}
	for _, c := range []struct {
		e    api.Event
		want []int
	}{
		{store("a", 0, 12, 5), []int{2, 12, 8}}, {store("a", 1, 12, 5), []int{2, 13, 8}}, {store("a", 2, 12, 5), []int{2, 1, 8}}, {store("a", 0, 0, 2, 5, 8), []int{0, 0, 0}}, {store("a", 1, 31, 2, 8), []int{31, 5, 31}}, {store("a", 2, 31, 8), []int{2, 5, 0}}, {store("a", 1, 0, 2), []int{2, 5, 8}},
	} {
		s := done(t, some(), c.e)
		if !slices.Equal(flags(s), c.want) {
			t.Errorf("%s: %v", told(c.e), flags(s))
		}
		for i, b := range s.Boxes[1].Msgs {
			s.Boxes[1].Msgs[i].Flags = some().Boxes[1].Msgs[i].Flags
			if string(b.Body) != string(some().Boxes[1].Msgs[i].Body) {
				t.Error("bytes are others")
			}
		}
		isTold(t, "but for flags", s, some())
	}
	refused(t, some(), api.ErrNone, store("z", 0, 0, 2), store("gone", 1, 1, 1), store("a", 0, 0, 1), store("a", 1, 1, 2, 3), store("a", 1, 1, 2, 5, 8, 9), store("b", 2, 1, 1), store("a", 0, 0, upTo(60)...))
	refused(t, some(), api.ErrArg, store("a", 3, 0, 2), store("a", -1, 0, 2), store("a", 0, 32, 2), store("a", 0, 0), store("a", 0, 0, upTo(61)...))
}

// copied: messages, with other numbers from one on.
func copied(l []api.Msg, from int) []api.Msg {
	own := slices.Clone(l)
	for i := range own {
		own[i].UID = from + i
	}
	return own
}

// P14.1: EvCopy: of one, of several, of all, to another mailbox and to itself.
func TestCopyTo(t *testing.T) {
	for _, c := range []struct {
		ids    []int
		places []int
	}{
		{[]int{2}, []int{0}}, {[]int{8}, []int{2}}, {[]int{2, 8}, []int{0, 2}}, {[]int{2, 5, 8}, []int{0, 1, 2}},
	} {
		l := []api.Msg{}
		for _, i := range c.places {
			l = append(l, some().Boxes[1].Msgs[i])
		}
		isTold(t, "copied", done(t, some(), copies("a", "INBOX", c.ids...)), with(func(s *api.State) {
			s.Boxes[0].Msgs = append(s.Boxes[0].Msgs, copied(l, 5)...)
			s.Boxes[0].Next = 5 + len(l)
		}))
		isTold(t, "copied to itself", done(t, some(), copies("a", "a", c.ids...)), with(func(s *api.State) {
			s.Boxes[1].Msgs = append(s.Boxes[1].Msgs, copied(l, 9)...)
			s.Boxes[1].Next = 9 + len(l)
		}))
	}
	refused(t, some(), api.ErrNone, copies("z", "a", 2), copies("a", "z", 2), copies("z", "z", 2), copies("gone", "gone", 1), copies("a", "b", 1), copies("a", "b", 2, 3), copies("a", "b", 1, 2), copies("a", "b", 2, 5, 8, 9), copies("a", "a", 9), copies("b", "a", 1))
}

// P14.1: EvCopy of several, of which one meets an error: nothing is changed; which error counts.
func TestCopyErrors(t *testing.T) {
	for _, c := range []struct {
		n, next int
		ids     []int
		want    api.Errno
	}{
		{37, 50, []int{3, 4, 6}, api.OK}, {38, 50, []int{3, 4, 6}, api.ErrFull}, {38, 50, []int{3, 6}, api.OK}, {39, 50, []int{3, 6}, api.ErrFull}, {39, 50, []int{6}, api.OK}, {40, 50, []int{3, 4, 6}, api.ErrFull},
		{5, top - 2, []int{3, 4, 6}, api.OK}, {5, top - 1, []int{3, 4, 6}, api.ErrUsed}, {5, top, []int{3, 4}, api.ErrUsed}, {5, top, []int{4}, api.OK}, {5, top + 1, []int{4}, api.ErrUsed},
		{39, top, []int{3, 4}, api.ErrUsed}, {38, top, []int{3, 4, 6}, api.ErrUsed}, {38, top - 1, []int{3, 4, 6}, api.ErrUsed}, {39, top - 1, []int{3, 4, 6}, api.ErrFull}, {40, top + 1, []int{3}, api.ErrUsed}, {40, top, []int{3}, api.ErrFull},
		{40, 50, []int{3, 5}, api.ErrNone}, {5, top + 1, []int{2, 3}, api.ErrNone}, {40, top + 1, []int{7}, api.ErrNone},
	} {
		if _, f := likeApply(t, boxOf(c.n, c.next), at(500, copies("b", "a", c.ids...))); f != c.want {
			t.Errorf("%v to %d messages, next %d: error %d, not %d", c.ids, c.n, c.next, f, c.want)
		}
	}
	for _, n := range []int{1, 19, 20, 21, 39, 40} {
		want := api.OK
		if n > 20 {
			want = api.ErrFull
		}
		if _, f := likeApply(t, boxOf(n, 100), copies("a", "a", upTo(n)...)); f != want {
			t.Errorf("all %d to itself: error %d, not %d", n, f, want)
		}
	}
	refused(t, boxOf(40, top+1), api.ErrNone, copies("b", "z", 3), copies("z", "a", 3))
}

// P14.1, P14.2: EvExpunge.
func TestExpunge(t *testing.T) {
	isTold(t, "expunged", done(t, some(), at(130, expunge("a", 2, 8))), with(func(s *api.State) {
		l := s.Boxes[1].Msgs
		s.Tombs = append(s.Tombs, api.Tomb{ID: 10, Box: "a", At: 130, Msg: l[0]}, api.Tomb{ID: 11, Box: "a", At: 130, Msg: l[2]})
		s.Boxes[1].Msgs = l[1:2]
		s.Clock, s.NextTomb = 130, 12
	}))
	s := done(t, some(), at(3, expunge("a", 5)), at(3, expunge("INBOX", 3)), expunge("a", 2, 8))
	for i, uid := range []int{5, 3, 2, 8} {
		if x, ok := likeTomb(t, s, 10+i); !ok || x.Msg.UID != uid || x.At != 100 {
			t.Errorf("tomb %d: %s", 10+i, told(x))
		}
	}
	if b, _ := likeBox(t, s, "a"); len(b.Msgs) != 0 || b.Next != 9 {
		t.Errorf("all expunged: %s", told(b))
	}
	refused(t, s, api.ErrNone, expunge("a", 5), expunge("a", 2))
	refused(t, some(), api.ErrNone, expunge("z", 1), expunge("gone", 7), expunge("a", 1), expunge("a", 2, 3), expunge("a", 2, 5, 8, 9), expunge("b", 1), expunge("A", 2))
	all := done(t, boxOf(40, 60), expunge("a", upTo(40)...))
	if len(all.Tombs) != 44 || all.NextTomb != 50 {
		t.Errorf("forty expunged: %d tombs, next %d", len(all.Tombs), all.NextTomb)
	}
}

// P14.1, P14.2: EvRestore.
func TestRestore(t *testing.T) {
	isTold(t, "restored", done(t, some(), at(150, restore(3))), with(func(s *api.State) {
		m := s.Tombs[0].Msg
		m.UID = 9
		s.Boxes[1].Msgs = append(s.Boxes[1].Msgs, m)
		s.Boxes[1].Next = 10
		s.Tombs = s.Tombs[1:]
		s.Clock = 150
	}))
	isTold(t, "restored though it is held", done(t, some(), restore(8)), with(func(s *api.State) {
		s.Boxes[4].Msgs = append(s.Boxes[4].Msgs, api.Msg{UID: 4, Flags: 1, Date: 1001})
		s.Boxes[4].Next = 5
		s.Tombs = s.Tombs[:3]
	}))
	refused(t, some(), api.ErrNone, restore(0), restore(1), restore(2), restore(4), restore(5), restore(9), restore(10), restore(endTime))
	refused(t, first(), api.ErrNone, restore(1))
	s := done(t, some(), restore(3))
	refused(t, s, api.ErrNone, restore(3))
	done(t, some(), create("gone"), restore(4))
	refused(t, done(t, some(), remove("a")), api.ErrNone, restore(3))
	// Another mailbox of that name takes it, too.
	s = done(t, some(), remove("a"), create("a"), restore(3), restore(11))
	if b, _ := likeBox(t, s, "a"); len(b.Msgs) != 2 || b.Valid != 11 || string(b.Msgs[0].Body) != "three" || string(b.Msgs[1].Body) != "body 5" {
		t.Errorf("restored to another one: %s", told(b))
	}
}
