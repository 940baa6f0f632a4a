package rule_test

import (
	"math/rand"
	"slices"
	"testing"

	"escheat/api"
	"escheat/rule"
)

// world is rules, holds and a tomb.
type world struct {
	rules []api.Rule
	holds []api.Hold
	tomb  api.Tomb
}

func (w world) goes(now int) bool { return rule.Goes(w.tomb, w.rules, w.holds, now) }

func (w world) held() bool { return rule.Held(w.holds, w.tomb.Box, w.tomb.Msg.UID) }

// holdKinds: of one mailbox and of another one, of all and of some numbers.
var holdKinds = []api.Hold{hold("a"), hold("a", 1, 1), hold("a", 3, 2), hold("a", 0, 3), hold("b"), hold("b", 1, 3)}

// few: lists of none, one and two of some things, in each order.
func few[T any](all []T) [][]T {
	l := [][]T{{}}
	for _, one := range all {
		l = append(l, []T{one})
		for _, two := range all {
			l = append(l, []T{one, two})
		}
	}
	return l
}

// worlds: all of a few rules, holds and tombs.
func worlds() []world {
	var l []world
	for _, keeps := range few(rules("a", 0, "a", 2, "a", -1, "b", 3)) {
		for _, holds := range few(holdKinds) {
			for _, at := range []int{-1, 0, 2} {
				for _, uid := range []int{1, 2, 4} {
					l = append(l, world{keeps, holds, tomb(1, "a", at, uid)})
				}
			}
		}
	}
	return l
}

// chanceWorlds: as many, of all numbers and times.
func chanceWorlds(r *rand.Rand, n int) []world {
	var l []world
	for range n {
		l = append(l, world{someRules(r), someHolds(r), tomb(1, someBox(r), someTime(r), someNum(r))})
	}
	return l
}

// times: rising ones, among them each at which a tomb of worlds may get ripe.
var times = []int{least, -bound, -1, 0, 1, 2, 3, 4, 5, 6, 9, 20, 39, 40, 60, 79, 80, 1 << 40, bound - 1, bound, bound + 1, most}

// P13.2: what may go isn't held, and what is held may never go.
func TestGoesUnheld(t *testing.T) {
	for _, w := range append(worlds(), chanceWorlds(rand.New(rand.NewSource(1321)), 20000)...) {
		held := w.held()
		for _, now := range times {
			if w.goes(now) && held {
				t.Fatalf("held, and may go at %d: %+v", now, w)
			}
		}
	}
}

// P13.2: what may go at a time may go at each later one, and what isn't held may go at last.
func TestGoesOn(t *testing.T) {
	for _, w := range append(worlds(), chanceWorlds(rand.New(rand.NewSource(1322)), 20000)...) {
		went := false
		for _, now := range times {
			goes := w.goes(now)
			if went && !goes {
				t.Fatalf("may go no more at %d: %+v", now, w)
			}
			went = goes
		}
		if went == w.held() {
			t.Fatalf("at last: %t: %+v", went, w)
		}
	}
}

// P13.2: a hold more, wherever it stands among the others, lets nothing go that didn't.
func TestHoldMore(t *testing.T) {
	all := append(worlds(), chanceWorlds(rand.New(rand.NewSource(1323)), 3000)...)
	for i, w := range all {
		more := w
		for j, h := range holdKinds {
			more.holds = slices.Insert(slices.Clone(w.holds), (i+j)%(len(w.holds)+1), h)
			if w.held() && !more.held() {
				t.Fatalf("not held any more with %+v: %+v", h, w)
			}
			for _, now := range times {
				if more.goes(now) && !w.goes(now) {
					t.Fatalf("may go at %d with %+v: %+v", now, h, w)
				}
			}
		}
	}
}

// isWithin: is the one list the other one without some of its numbers?
func isWithin(few, many []int) bool {
	for _, n := range many {
		if len(few) > 0 && few[0] == n {
			few = few[1:]
		}
	}
	return len(few) == 0
}

// P13.2: of many tombs: what is due isn't held, stays due as time goes on, and gets no more by a hold more.
func TestDueOn(t *testing.T) {
	r := rand.New(rand.NewSource(1324))
	for range 3000 {
		tombs, keeps, holds := someTombs(r), someRules(r), someHolds(r)
		for i := range tombs {
			tombs[i].ID = i
		}
		more := append(slices.Clone(holds), someHold(r))
		last := []int{}
		for _, now := range times {
			ids := rule.Due(tombs, keeps, holds, now)
			if !isWithin(last, ids) {
				t.Fatalf("%v are due, and behind them, at %d, %v", last, now, ids)
			}
			for _, id := range ids {
				if rule.Held(holds, tombs[id].Box, tombs[id].Msg.UID) {
					t.Fatalf("%d is held, and due at %d", id, now)
				}
			}
			if fewer := rule.Due(tombs, keeps, more, now); !isWithin(fewer, ids) {
				t.Fatalf("%v are due, and with a hold more %v", ids, fewer)
			}
			last = ids
		}
	}
}

// P13.2: a hold of all of a mailbox holds each of its tombs, at all times, and none of another one.
func TestHoldOfAll(t *testing.T) {
	for _, w := range append(worlds(), chanceWorlds(rand.New(rand.NewSource(1325)), 3000)...) {
		all := w
		all.holds = append(slices.Clone(w.holds), hold(w.tomb.Box))
		other := w
		other.holds = append(slices.Clone(w.holds), hold(w.tomb.Box+"x"))
		if !all.held() || other.held() != w.held() {
			t.Fatalf("held %t, by another one's %t: %+v", all.held(), other.held(), w)
		}
		for _, now := range times {
			if all.goes(now) || other.goes(now) != w.goes(now) {
				t.Fatalf("goes %t, with another one's %t, at %d: %+v", all.goes(now), other.goes(now), now, w)
			}
		}
	}
	for _, uid := range nums {
		if l := rule.Due([]api.Tomb{tomb(1, "a", 0, uid), tomb(2, "b", 0, uid)}, nil, []api.Hold{hold("a")}, most); !slices.Equal(l, []int{2}) {
			t.Errorf("number %d: %v are due", uid, l)
		}
	}
}
