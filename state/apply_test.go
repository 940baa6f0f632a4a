package state_test

import (
	"slices"
	"strings"
	"testing"

	"escheat/api"
)

// oneEach: an event of each kind that some() lets be done.
func oneEach() []api.Event {
	return []api.Event{
		create("z"), remove("a"), rename("a", "c"), subscribe("b"), forget("a"), bring("a", 31, 9, "new"), store("a", 1, 16, 2, 8), copies("a", "INBOX", 2, 5),
		expunge("a", 5), restore(3), keep("b", 7), hold("a", 1, 0), release(2), purge(4),
	}
}

// P14.1: a state, or an event, that may not be: ErrArg, and nothing changed.
func TestApplyArg(t *testing.T) {
	for i, s := range oddStates() {
		if i == 1 || i == 2 {
			continue
		}
		refused(t, s, api.ErrArg, append(oneEach(), at(endTime, create("z")), api.Event{})...)
	}
	s := some()
	for _, e := range oneEach() {
		e.At = 105
		done(t, s, e)
		kind := e.Kind
		for _, e.At = range []int{least, -1, endTime + 1, most} {
			refused(t, s, api.ErrArg, e)
		}
		e.At = 7
		for _, e.Kind = range []int{least, -1, 0, 15, 16, most} {
			refused(t, s, api.ErrArg, e)
		}
		e.Kind = kind
		for _, set := range []func(*api.Event){
			func(e *api.Event) { e.Box += " " }, func(e *api.Event) { e.To += "/" }, func(e *api.Event) { e.IDs = append(slices.Clone(e.IDs), 0) },
			func(e *api.Event) { e.Set = append(slices.Clone(e.Set), api.Range{From: -1}) }, func(e *api.Event) { e.Mode = -1 }, func(e *api.Event) { e.Flags = 32 },
			func(e *api.Event) { e.Date = -1 }, func(e *api.Event) { e.N = -1 }, func(e *api.Event) { e.Body = make([]byte, 2001) },
		} {
			wrong := e
			set(&wrong)
			refused(t, s, api.ErrArg, wrong)
		}
	}
	refused(t, s, api.ErrArg, create("inbox"), create(""), create(strings.Repeat("n", 41)), rename("a", "inbox/x"), subscribe("Inbox"), bring("inbox", 0, 0, ""), purge(), purge(4, 3), purge(3, 3), purge(0), keep("a", endTime+1), hold("a", 1, top+1), store("a", 3, 0, 2), copies("a", "", 2))
}

// P14.1: Clock is the event's At where that is greater; beside an error it stays.
func TestClock(t *testing.T) {
	for _, e := range oneEach() {
		for _, c := range []struct{ at, clock int }{{0, 100}, {99, 100}, {100, 100}, {101, 101}, {105, 105}, {endTime, endTime}} {
			if c.at < 101 && e.Kind == api.EvPurge {
				continue // tomb 4 isn't ripe yet
			}
			if s := done(t, some(), at(c.at, e)); s.Clock != c.clock {
				t.Errorf("Clock is %d behind kind %d at %d", s.Clock, e.Kind, c.at)
			}
			if c.at > 100 {
				if s := done(t, first(), at(c.at, keep("INBOX", 0))); s.Clock != c.at {
					t.Errorf("Clock is %d behind %d", s.Clock, c.at)
				}
			}
		}
	}
	late := with(func(s *api.State) { s.Clock = endTime })
	for _, e := range oneEach() {
		if s := done(t, late, e); s.Clock != endTime {
			t.Errorf("Clock is %d behind the last second", s.Clock)
		}
	}
	for _, e := range []api.Event{create("a"), remove("z"), rename("z", "y"), subscribe("a"), forget("b"), bring("z", 0, 0, ""), store("a", 0, 0, 1), copies("a", "z", 2), expunge("a", 1), restore(1), hold("z z"), release(1), purge(1)} {
		s, f := likeApply(t, some(), at(500, e))
		if f == api.OK || s.Clock != 100 {
			t.Errorf("kind %d: error %d, Clock %d", e.Kind, f, s.Clock)
		}
	}
}

// P14.1: EvCreate.
func TestCreate(t *testing.T) {
	isTold(t, "created", done(t, some(), create("aa")), with(func(s *api.State) {
		s.Boxes = slices.Insert(s.Boxes, 4, api.Box{Name: "aa", Valid: 11, Next: 1})
		s.NextValid = 12
	}))
	for _, name := range []string{"!", "INBOX/a", "INBOY", "Z", "a!", "a/a", "a/b/c/d", "a/b/d", "a0", "abc", "zz", strings.Repeat("n", 40)} {
		s := done(t, some(), create(name))
		b, ok := likeBox(t, s, name)
		if !ok || told(b) != told(api.Box{Name: name, Valid: 11, Next: 1}) {
			t.Errorf("created %q: %t, %s", name, ok, told(b))
		}
		refused(t, s, api.ErrThere, create(name))
	}
	refused(t, some(), api.ErrThere, create("INBOX"), create("a"), create("a/b/c"), create("b"))
	for _, n := range []int{15, 16} {
		s := with(func(s *api.State) { s.Boxes, s.NextValid = boxesOf(n), 50 })
		if n < 16 {
			s = done(t, s, create("z"))
			refused(t, s, api.ErrThere, create("z"))
		}
		refused(t, s, api.ErrFull, create("y"), create("INBOX/x"))
		refused(t, s, api.ErrThere, create("INBOX"), create("m14"))
	}
	last := with(func(s *api.State) { s.NextValid = top })
	s := done(t, last, create("z"))
	if b, ok := likeBox(t, s, "z"); !ok || b.Valid != top || s.NextValid != top+1 {
		t.Errorf("the last Valid: %s", told(b))
	}
	refused(t, s, api.ErrUsed, create("y"))
	refused(t, s, api.ErrThere, create("z"))
	full := with(func(s *api.State) { s.Boxes, s.NextValid = boxesOf(16), top+1 })
	refused(t, full, api.ErrFull, create("z"))
	refused(t, full, api.ErrThere, create("m15"))
	full.Boxes = full.Boxes[:15]
	refused(t, full, api.ErrUsed, create("z"))
}

// P14.1: a Valid is never given twice, whatever is deleted.
func TestCreateAgain(t *testing.T) {
	s := first()
	for n := range 20 {
		s = done(t, s, create("a"))
		if b, _ := likeBox(t, s, "a"); b.Valid != n+2 {
			t.Errorf("Valid %d", b.Valid)
		}
		s = done(t, s, remove("a"))
	}
}

// P14.1, P14.2: EvDelete.
func TestDelete(t *testing.T) {
	isTold(t, "deleted", done(t, some(), at(120, remove("a"))), with(func(s *api.State) {
		for i, m := range s.Boxes[1].Msgs {
			s.Tombs = append(s.Tombs, api.Tomb{ID: 10 + i, Box: "a", At: 120, Msg: m})
		}
		s.Boxes = slices.Delete(s.Boxes, 1, 2)
		s.Clock, s.NextTomb = 120, 13
	}))
	isTold(t, "deleted without messages", done(t, some(), remove("b")), with(func(s *api.State) { s.Boxes = s.Boxes[:5] }))
	refused(t, some(), api.ErrNone, remove("z"), remove("gone"), remove("A"), remove("a/b/d"))
	refused(t, some(), api.ErrArg, remove("INBOX"))
	refused(t, first(), api.ErrArg, remove("INBOX"))
	refused(t, first(), api.ErrNone, remove("INBOX/a"))
	s := some()
	for _, name := range []string{"ab", "a/b", "b", "a", "a/b/c"} {
		s = done(t, s, remove(name))
		refused(t, s, api.ErrNone, remove(name))
	}
	if len(s.Boxes) != 1 || len(s.Tombs) != 9 {
		t.Errorf("all deleted: %s", short(told(s)))
	}
}

// fullOf: so many tombs, and a mailbox a of three messages, b of none.
func fullOf(tombs, next int) api.State {
	return with(func(s *api.State) { s.Tombs, s.NextTomb = tombsOf(tombs, "b"), next })
}

// P14.1: room for tombs, and their numbers, by EvDelete and by EvExpunge.
func TestBury(t *testing.T) {
	for _, c := range []struct {
		tombs, next, take int
		want              api.Errno
	}{
		{56, 100, 3, api.OK}, {57, 100, 3, api.OK}, {58, 100, 3, api.ErrFull}, {59, 100, 3, api.ErrFull}, {60, 100, 3, api.ErrFull},
		{58, 100, 2, api.OK}, {59, 100, 2, api.ErrFull}, {59, 100, 1, api.OK}, {60, 100, 1, api.ErrFull}, {60, 100, 0, api.OK},
		{0, 1, 3, api.OK}, {5, top - 3, 3, api.OK}, {5, top - 2, 3, api.OK}, {5, top - 1, 3, api.ErrUsed}, {5, top, 3, api.ErrUsed}, {5, top + 1, 3, api.ErrUsed},
		{5, top - 1, 2, api.OK}, {5, top, 2, api.ErrUsed}, {5, top, 1, api.OK}, {5, top + 1, 1, api.ErrUsed}, {5, top + 1, 0, api.OK},
		{58, top + 1, 3, api.ErrFull}, {57, top + 1, 3, api.ErrUsed}, {60, top + 1, 1, api.ErrFull}, {60, top + 1, 0, api.OK},
	} {
		s := fullOf(c.tombs, c.next)
		s.Boxes[1].Msgs = s.Boxes[1].Msgs[:c.take]
		after, f := likeApply(t, s, at(101, remove("a")))
		if f != c.want {
			t.Errorf("%d of %d tombs, next %d: EvDelete's error %d", c.take, c.tombs, c.next, f)
		}
		if f == api.OK && (len(after.Tombs) != c.tombs+c.take || after.NextTomb != c.next+c.take) {
			t.Errorf("%d of %d tombs, next %d: EvDelete leaves %d, next %d", c.take, c.tombs, c.next, len(after.Tombs), after.NextTomb)
		}
		if c.take == 0 {
			continue
		}
		s = fullOf(c.tombs, c.next)
		after, f = likeApply(t, s, at(101, expunge("a", []int{2, 5, 8}[:c.take]...)))
		if f != c.want {
			t.Errorf("%d of %d tombs, next %d: EvExpunge's error %d", c.take, c.tombs, c.next, f)
		}
		if f == api.OK && (len(after.Tombs) != c.tombs+c.take || len(after.Boxes[1].Msgs) != 3-c.take || after.NextTomb != c.next+c.take) {
			t.Errorf("%d of %d tombs, next %d: EvExpunge leaves %d, next %d", c.take, c.tombs, c.next, len(after.Tombs), after.NextTomb)
		}
	}
	refused(t, fullOf(60, 100), api.ErrNone, remove("z"), expunge("z", 1), expunge("a", 3), expunge("a", 2, 3))
	refused(t, fullOf(60, 100), api.ErrArg, remove("INBOX"))
	refused(t, fullOf(60, top+1), api.ErrNone, expunge("a", 1, 2))
}

// P14.1: EvRename.
func TestRename(t *testing.T) {
	isTold(t, "renamed with those below", done(t, some(), rename("a", "c/x")), with(func(s *api.State) {
		for i, name := range []string{"c/x", "c/x/b", "c/x/b/c"} {
			s.Boxes[1+i].Name = name
		}
		s.Boxes = []api.Box{s.Boxes[0], s.Boxes[4], s.Boxes[5], s.Boxes[1], s.Boxes[2], s.Boxes[3]}
	}))
	isTold(t, "renamed in the middle", done(t, some(), rename("a/b", "a/z")), with(func(s *api.State) {
		s.Boxes[2].Name, s.Boxes[3].Name = "a/z", "a/z/c"
	}))
	isTold(t, "renamed alone", done(t, some(), rename("ab", "A")), with(func(s *api.State) {
		b := s.Boxes[4]
		b.Name = "A"
		s.Boxes = slices.Insert(slices.Delete(s.Boxes, 4, 5), 0, b)
	}))
	isTold(t, "renamed below INBOX", done(t, some(), rename("b", "INBOX/b")), with(func(s *api.State) {
		b := s.Boxes[5]
		b.Name = "INBOX/b"
		s.Boxes = slices.Insert(s.Boxes[:5], 1, b)
	}))
	done(t, some(), rename("a/b", "c"), rename("ab", "b/a"), rename("a", "ac"), rename("b", "B"))
	for _, c := range []struct {
		box, to string
		want    api.Errno
	}{
		{"z", "y", api.ErrNone}, {"z", "z", api.ErrNone}, {"z", "z/y", api.ErrNone}, {"z", "a", api.ErrNone}, {"gone", "y", api.ErrNone}, {"A", "y", api.ErrNone}, {"a/b/d", "y", api.ErrNone},
		{"INBOX", "y", api.ErrArg}, {"INBOX", "INBOX", api.ErrArg}, {"INBOX", "INBOX/a", api.ErrArg}, {"INBOX", "a", api.ErrArg}, {"INBOX/a", "y", api.ErrNone},
		{"a", "a", api.ErrArg}, {"a", "a/x", api.ErrArg}, {"a", "a/b", api.ErrArg}, {"a", "a/b/c/d", api.ErrArg}, {"a/b", "a/b/c", api.ErrArg}, {"a/b/c", "a/b/c", api.ErrArg},
		{"a", "b", api.ErrThere}, {"a", "ab", api.ErrThere}, {"a", "INBOX", api.ErrThere}, {"a/b", "a", api.ErrThere}, {"a/b", "b", api.ErrThere}, {"a/b/c", "a/b", api.ErrThere}, {"b", "a", api.ErrThere}, {"b", "a/b", api.ErrThere}, {"b", "INBOX", api.ErrThere},
		{"a", "1/2", api.OK}, {"a", "1/2/3", api.ErrForm}, {"a", "1/2/3/4", api.ErrForm}, {"a/b", "1/2/3", api.OK}, {"a/b", "1/2/3/4", api.ErrForm}, {"a/b/c", "1/2/3/4", api.OK},
		{"a", strings.Repeat("n", 36), api.OK}, {"a", strings.Repeat("n", 37), api.ErrForm}, {"a", strings.Repeat("n", 40), api.ErrForm}, {"a/b", strings.Repeat("n", 38), api.OK}, {"a/b", strings.Repeat("n", 39), api.ErrForm}, {"b", strings.Repeat("n", 40), api.OK},
		{"a", "aa", api.OK}, {"a", "abc", api.OK}, {"ab", "a/x", api.OK}, {"b", "a/b/c/d", api.OK}, {"ab", "abc", api.OK}, {"ab", "ab/c", api.ErrArg},
	} {
		if _, f := likeApply(t, some(), rename(c.box, c.to)); f != c.want {
			t.Errorf("EvRename of %q to %q: error %d, not %d", c.box, c.to, f, c.want)
		}
	}
}

// named: INBOX, and mailboxes of these names behind it, each with a message.
func named(names ...string) api.State {
	return with(func(s *api.State) {
		s.Boxes = boxesOf(1)
		for i, name := range names {
			s.Boxes = append(s.Boxes, api.Box{Name: name, Valid: 10 - i, Next: 9, Msgs: msgs(i + 1)})
		}
	})
}

// P14.1: where new names are those of mailboxes that are renamed, and of ones that aren't; what is below alone is renamed, too.
func TestRenameNames(t *testing.T) {
	for i, c := range []struct {
		s       api.State
		box, to string
		want    api.Errno
		names   string
	}{
		{named("a/a", "a/a/a"), "a/a", "a", api.OK, "INBOX a a/a"},
		{named("a/a", "a/a/a", "a/a/a/a"), "a/a", "a", api.OK, "INBOX a a/a a/a/a"},
		{named("a", "a/a", "a/a/a"), "a/a", "a", api.ErrThere, ""},
		{named("a/a", "a/b"), "a/a", "a", api.OK, "INBOX a a/b"},
		{named("a/a", "a/a/b", "a/b"), "a/a", "a", api.ErrThere, ""},
		{named("a/a", "a/b"), "a", "c", api.ErrNone, ""},
		{named("a", "a/x", "b/x"), "a", "b", api.ErrThere, ""},
		{named("a", "a/x", "b/y"), "a", "b", api.OK, "INBOX b b/x b/y"},
		{named("a", "a/x/y", "b/x/y"), "a", "b", api.ErrThere, ""},
		{named("a", "a/x/y", "b/x"), "a", "b", api.OK, "INBOX b b/x b/x/y"},
		// A wrong name counts ahead of one that is there.
		{named("a", "a/x/y", "b"), "a", "b/c", api.OK, "INBOX b b/c b/c/x/y"},
		{named("a", "a/x/y", "b/c"), "a", "b/c", api.ErrThere, ""},
		{named("a", "a/x/y", "b", "b/c/d"), "a", "b/c/d", api.ErrForm, ""},
		{named("a", "a/x", "b"), "a", "b", api.ErrThere, ""},
		{named("a", "a/"+strings.Repeat("x", 38), "bb"), "a", "bb", api.ErrForm, ""},
		{named("a", "a/"+strings.Repeat("x", 38), "b"), "a", "b", api.ErrThere, ""},
		{named("INBOX/a", "INBOX/a/b"), "INBOX/a", "c", api.OK, "INBOX c c/b"},
		{named("INBOX/a"), "INBOX/a", "INBOX", api.ErrThere, ""},
		{named("INBOX/a"), "INBOX/a", "INBOX/b", api.OK, "INBOX INBOX/b"},
		{named("a", "a!", "a!/b", "a/b", "ab"), "a", "b", api.OK, "INBOX a! a!/b ab b b/b"},
		{named("a", "a!", "a!/b", "a/b", "ab"), "a!", "z", api.OK, "INBOX a a/b ab z z/b"},
		{named("a", "a/b", "b"), "b", "a/c", api.OK, "INBOX a a/b a/c"},
		{named("b", "b/c"), "b", "!", api.OK, "! !/c INBOX"},
	} {
		if !likeRight(t, c.s) {
			t.Fatalf("case %d may not be", i)
		}
		after, f := likeApply(t, c.s, rename(c.box, c.to))
		names := []string{}
		for _, b := range after.Boxes {
			names = append(names, b.Name)
		}
		if f != c.want || f == api.OK && strings.Join(names, " ") != c.names {
			t.Errorf("case %d: error %d, %q", i, f, names)
		}
	}
}

// P14.1: what isn't a mailbox keeps its name, whatever is renamed.
func TestRenameAlone(t *testing.T) {
	s := some()
	after := done(t, s, rename("a", "c"), rename("b", "d"), rename("ab", "e"))
	if told(after.Subs) != told(s.Subs) || told(after.Rules) != told(s.Rules) || told(after.Tombs) != told(s.Tombs) || told(after.Holds) != told(s.Holds) {
		t.Errorf("more is renamed than mailboxes: %s", short(told(after)))
	}
	refused(t, after, api.ErrNone, restore(3))
	done(t, after, rename("c", "a"), restore(3))
}

// P14.1: EvSubscribe and EvForget.
func TestSubs(t *testing.T) {
	for _, c := range []struct {
		e    api.Event
		want string
	}{
		{subscribe("b"), "a b gone"}, {subscribe("A"), "A a gone"}, {subscribe("INBOX"), "INBOX a gone"}, {subscribe("zz"), "a gone zz"}, {subscribe("a/b"), "a a/b gone"}, {forget("a"), "gone"}, {forget("gone"), "a"},
	} {
		if s := done(t, some(), c.e); strings.Join(s.Subs, " ") != c.want {
			t.Errorf("%s: %q", told(c.e), s.Subs)
		}
	}
	refused(t, some(), api.ErrThere, subscribe("a"), subscribe("gone"))
	refused(t, some(), api.ErrNone, forget("b"), forget("INBOX"), forget("A"), forget("a/b"), forget("zz"))
	refused(t, first(), api.ErrNone, forget("INBOX"))
	for _, n := range []int{14, 15, 16} {
		s := with(func(s *api.State) { s.Subs = namesOf(n) })
		refused(t, s, api.ErrThere, subscribe("n00"), subscribe("n07"), subscribe("n13"))
		if n == 16 {
			refused(t, s, api.ErrFull, subscribe("a"), subscribe("n045"), subscribe("z"))
			s = done(t, s, forget("n15"), subscribe("z"))
		}
		done(t, s, forget("n03"), subscribe("n035"))
	}
	s := first()
	for _, i := range []int{7, 3, 11, 0, 15, 1, 9, 14, 2, 8, 5, 12, 4, 13, 6, 10} {
		s = done(t, s, subscribe(namesOf(16)[i]))
	}
	if !slices.Equal(s.Subs, namesOf(16)) {
		t.Errorf("subscribed: %q", s.Subs)
	}
	for _, i := range []int{7, 3, 11, 0, 15, 1, 9, 14, 2, 8, 5, 12, 4, 13, 6, 10} {
		s = done(t, s, forget(namesOf(16)[i]))
	}
	isTold(t, "all forgotten", s, first())
}
