package state_test

import (
	"slices"
	"testing"

	"escheat/api"
)

// P14.1: EvRule.
func TestRule(t *testing.T) {
	a, gone := api.Rule{Box: "a", Keep: 60}, api.Rule{Box: "gone", Keep: 5}
	for _, c := range []struct {
		e    api.Event
		want []api.Rule
	}{
		{keep("b", 7), []api.Rule{a, {Box: "b", Keep: 7}, gone}},
		{keep("INBOX", 1), []api.Rule{{Box: "INBOX", Keep: 1}, a, gone}},
		{keep("nowhere", endTime), []api.Rule{a, gone, {Box: "nowhere", Keep: endTime}}},
		{keep("a", 1), []api.Rule{{Box: "a", Keep: 1}, gone}},
		{keep("gone", 1), []api.Rule{a, {Box: "gone", Keep: 1}}},
		{keep("a", 60), []api.Rule{a, gone}},
		{keep("a", 0), []api.Rule{gone}},
		{keep("gone", 0), []api.Rule{a}},
		{keep("b", 0), []api.Rule{a, gone}},
		{keep("a/b", 0), []api.Rule{a, gone}},
	} {
		isTold(t, told(c.e), done(t, some(), c.e), with(func(s *api.State) { s.Rules = c.want }))
	}
	refused(t, some(), api.ErrArg, keep("a", -1), keep("a", endTime+1), keep("", 1))
	for _, n := range []int{14, 15, 16} {
		s := with(func(s *api.State) { s.Rules = rulesOf(n) })
		s = done(t, s, keep("z", 0), keep("n00", 9), keep("n13", 9))
		if n == 16 {
			refused(t, s, api.ErrFull, keep("z", 1), keep("a", 1), keep("n035", endTime))
			s = done(t, s, keep("n15", 0))
		}
		s = done(t, s, keep("z", 1))
		done(t, s, keep("z", 0), keep("n03", 0), keep("n035", 1))
	}
}

// P14.1: EvHold.
func TestHold(t *testing.T) {
	isTold(t, "held", done(t, some(), hold("a", 3, 5, 0, 9)), with(func(s *api.State) {
		s.Holds = append(s.Holds, api.Hold{ID: 6, Box: "a", Set: ends(3, 5, 0, 9)})
		s.NextHold = 7
	}))
	for _, e := range []api.Event{hold("nowhere"), hold("a", 7, 4), hold("b", 0, 0), hold("b"), {Kind: api.EvHold, Box: "a", Set: slices.Repeat(ends(9, 9), 60)}} {
		s := done(t, some(), e, e)
		for i, h := range s.Holds[2:] {
			if told(h) != told(api.Hold{ID: 6 + i, Box: e.Box, Set: e.Set}) {
				t.Errorf("held: %s", short(told(h)))
			}
		}
	}
	refused(t, some(), api.ErrArg, hold("a", 1, -1), hold("a", 1, top+1), api.Event{Kind: api.EvHold, Box: "a", Set: slices.Repeat(ends(9, 9), 61)})
	for _, n := range []int{15, 16} {
		s := with(func(s *api.State) { s.Holds, s.NextHold = holdsOf(n), 60 })
		if n == 15 {
			s = done(t, s, hold("a", 1, 1))
		}
		refused(t, s, api.ErrFull, hold("a", 1, 1), hold("h"))
		s.NextHold = top + 1
		refused(t, s, api.ErrFull, hold("a"))
		s.Holds = s.Holds[:15]
		refused(t, s, api.ErrUsed, hold("a"))
		s.NextHold = top
		s = done(t, s, hold("a"))
		if s.Holds[15].ID != top || s.NextHold != top+1 {
			t.Errorf("the last hold: %d, next %d", s.Holds[15].ID, s.NextHold)
		}
		refused(t, done(t, s, release(top)), api.ErrUsed, hold("a"))
	}
}

// P14.1: EvRelease.
func TestRelease(t *testing.T) {
	isTold(t, "the first hold released", done(t, some(), release(2)), with(func(s *api.State) { s.Holds = s.Holds[1:] }))
	isTold(t, "the last hold released", done(t, some(), release(5)), with(func(s *api.State) { s.Holds = s.Holds[:1] }))
	s := done(t, some(), release(5), release(2))
	refused(t, s, api.ErrNone, release(2), release(5))
	if s = done(t, s, hold("a")); s.Holds[0].ID != 6 {
		t.Errorf("a number that was given: %d", s.Holds[0].ID)
	}
	refused(t, some(), api.ErrNone, release(0), release(1), release(3), release(4), release(6), release(endTime))
	refused(t, first(), api.ErrNone, release(1))
	many := with(func(s *api.State) { s.Holds, s.NextHold = holdsOf(16), 60 })
	for _, id := range []int{9, 1, 16, 8} {
		many = done(t, many, release(id))
	}
	left := []int{}
	for _, h := range many.Holds {
		left = append(left, h.ID)
	}
	if !slices.Equal(left, []int{2, 3, 4, 5, 6, 7, 10, 11, 12, 13, 14, 15}) {
		t.Errorf("left: %v", left)
	}
}

// P14.1: EvPurge: of none's number, ripe or not, held or not, of several.
func TestPurge(t *testing.T) {
	// Tomb 3 is ripe at 110, 4 at 101, 7 at 100, 8 is held.
	for _, c := range []struct {
		now  int
		ids  []int
		want api.Errno
	}{
		{0, []int{7}, api.OK}, {100, []int{7}, api.OK},
		{0, []int{4}, api.ErrHeld}, {100, []int{4}, api.ErrHeld}, {101, []int{4}, api.OK}, {102, []int{4}, api.OK},
		{109, []int{3}, api.ErrHeld}, {110, []int{3}, api.OK}, {endTime, []int{3}, api.OK},
		{100, []int{8}, api.ErrHeld}, {endTime, []int{8}, api.ErrHeld},
		{109, []int{3, 4}, api.ErrHeld}, {110, []int{3, 4}, api.OK}, {109, []int{4, 7}, api.OK}, {100, []int{4, 7}, api.ErrHeld}, {110, []int{3, 4, 7}, api.OK}, {110, []int{3, 4, 7, 8}, api.ErrHeld}, {109, []int{3, 7}, api.ErrHeld}, {200, []int{7, 8}, api.ErrHeld},
		{200, []int{1}, api.ErrNone}, {200, []int{2}, api.ErrNone}, {200, []int{5}, api.ErrNone}, {200, []int{9}, api.ErrNone}, {200, []int{10}, api.ErrNone}, {200, []int{top}, api.ErrNone},
		{200, []int{1, 3}, api.ErrNone}, {200, []int{3, 5}, api.ErrNone}, {200, []int{7, 9}, api.ErrNone}, {100, []int{3, 5}, api.ErrNone}, {100, []int{1, 8}, api.ErrNone}, {100, []int{8, 9}, api.ErrNone}, {100, []int{3, 4, 7, 8, 9}, api.ErrNone}, {200, upTo(60), api.ErrNone},
	} {
		after, f := likeApply(t, some(), at(c.now, purge(c.ids...)))
		if f != c.want {
			t.Errorf("%v at %d: error %d, not %d", c.ids, c.now, f, c.want)
		}
		left := slices.DeleteFunc([]int{3, 4, 7, 8}, func(id int) bool { return f == api.OK && slices.Contains(c.ids, id) })
		for _, x := range after.Tombs {
			if len(left) == 0 || x.ID != left[0] {
				t.Fatalf("%v at %d: %s is left, not %v", c.ids, c.now, told(after.Tombs), left)
			}
			left = left[1:]
		}
		if len(left) > 0 || after.NextTomb != 10 {
			t.Errorf("%v at %d: %v are gone, next %d", c.ids, c.now, left, after.NextTomb)
		}
	}
	refused(t, first(), api.ErrNone, purge(1))
	refused(t, some(), api.ErrArg, purge(), purge(4, 3), purge(3, 3), purge(0, 3), purge(top+1), purge(upTo(61)...))
}

// P14.1: what lets a tomb go, and what keeps it: its rule and the holds of the moment, by its message's number.
func TestPurgeWhen(t *testing.T) {
	s := at100(t)
	refused(t, s, api.ErrHeld, at(159, purge(1)), at(159, purge(1, 2)))
	done(t, s, at(160, purge(1)))
	done(t, s, at(160, purge(1, 2)))
	done(t, done(t, s, keep("m", 0)), purge(1, 2))
	refused(t, done(t, s, keep("m", 61)), api.ErrHeld, at(160, purge(1)))
	done(t, done(t, s, keep("m", 59)), at(159, purge(1)))
	// The longest keep.
	refused(t, done(t, s, keep("m", endTime)), api.ErrHeld, at(endTime, purge(1)))
	done(t, done(t, s, keep("m", endTime-100)), at(endTime, purge(1)))
	refused(t, done(t, s, keep("m", endTime-99)), api.ErrHeld, at(endTime, purge(1)))
	// Message 4 is tomb 1, message 6 tomb 2.
	held := done(t, s, hold("m", 4, 4))
	refused(t, held, api.ErrHeld, at(160, purge(1)), at(endTime, purge(1)), at(160, purge(1, 2)))
	done(t, held, at(160, purge(2)))
	done(t, done(t, held, release(1)), at(160, purge(1)))
	for _, e := range []api.Event{hold("m"), hold("m", 1, 5), hold("m", 5, 1), hold("m", 1, 0), hold("m", 0, 4), hold("m", 9, 9, 4, 4)} {
		refused(t, done(t, s, e), api.ErrHeld, at(160, purge(1)))
	}
	for _, e := range []api.Event{hold("m", 1, 3), hold("m", 5, 5), hold("m", 0, 0), hold("m", 5, 0), hold("m", 1, 1), hold("INBOX"), hold("m/x"), keep("INBOX", endTime)} {
		done(t, done(t, s, e), at(160, purge(1)))
	}
	// Two holds: both must be released.
	two := done(t, s, hold("m"), hold("m", 4, 6))
	refused(t, done(t, two, release(1)), api.ErrHeld, at(160, purge(1)))
	refused(t, done(t, two, release(2)), api.ErrHeld, at(160, purge(2)))
	done(t, done(t, two, release(1), release(2)), at(160, purge(1, 2)))
	// The mailbox may be gone, and renamed: its tombs go by its old name's rule.
	refused(t, done(t, s, remove("m")), api.ErrHeld, at(159, purge(1)))
	done(t, done(t, s, remove("m")), at(160, purge(1)))
	refused(t, done(t, s, rename("m", "n")), api.ErrHeld, at(159, purge(1)))
	done(t, done(t, s, rename("m", "n")), at(160, purge(1)))
}

// at100: the messages 4 and 6 of m were expunged at 100, and m's rule is of 60 seconds.
func at100(t *testing.T) api.State {
	t.Helper()
	s := done(t, first(), create("m"), keep("m", 60))
	for range 6 {
		s = done(t, s, bring("m", 3, 70, "one"))
	}
	return done(t, s, at(100, expunge("m", 4, 6)))
}

// P14.1: sixty tombs go at once; their numbers are not given again.
func TestPurgeMany(t *testing.T) {
	s := fullOf(60, 100)
	s.Rules, s.Holds = nil, nil
	s = done(t, s, purge(upTo(60)...))
	if len(s.Tombs) != 0 {
		t.Errorf("%d tombs are left", len(s.Tombs))
	}
	s = done(t, s, expunge("a", 5))
	if s.Tombs[0].ID != 100 {
		t.Errorf("the next tomb is %d", s.Tombs[0].ID)
	}
}
