package rule_test

import (
	"fmt"
	"math/rand"
	"slices"
	"strings"
	"testing"

	"escheat/api"
	"escheat/rule"
)

// rules: of names and seconds, in turn.
func rules(l ...any) []api.Rule {
	all := []api.Rule{}
	for pair := range slices.Chunk(l, 2) {
		all = append(all, api.Rule{Box: pair[0].(string), Keep: pair[1].(int)})
	}
	return all
}

// ends: ranges from the one to the other.
func ends(nums ...int) []api.Range {
	l := []api.Range{}
	for pair := range slices.Chunk(nums, 2) {
		l = append(l, api.Range{From: pair[0], To: pair[1]})
	}
	return l
}

func hold(box string, nums ...int) api.Hold { return api.Hold{ID: 1, Box: box, Set: ends(nums...)} }

func tomb(id int, box string, at, uid int) api.Tomb {
	return api.Tomb{ID: id, Box: box, At: at, Msg: api.Msg{UID: uid, Flags: 9, Date: 837596665, Body: []byte("one")}}
}

// names: by their bytes; each is another mailbox than all others.
var names = []string{"", "\x00", "A", "INBOX", "a", "a ", "a/b", "aa", "b", "inbox", "\u00e4", "\xff", strings.Repeat("n", 40), strings.Repeat("n", 41)}

// P13.1: the chapter's example.
func TestExample(t *testing.T) {
	l, x := rules("a", 60), tomb(1, "a", 5, 7)
	for now := -2; now < 200; now++ {
		want := now >= 65
		if likeRipe(t, x, likeKeep(t, l, "a"), now) != want || likeGoes(t, x, l, nil, now) != want || len(likeDue(t, []api.Tomb{x}, l, nil, now)) == 1 != want {
			t.Errorf("at %d: not %t", now, want)
		}
	}
}

// P13.1: Keep is the first such rule's, whatever it is.
func TestKeep(t *testing.T) {
	for _, c := range []struct {
		l    []api.Rule
		box  string
		want int
	}{
		{nil, "a", 0},
		{nil, "", 0},
		{rules(), "a", 0},
		{rules("b", 5), "a", 0},
		{rules("a", 60), "a", 60},
		{rules("a", 60), "A", 0},
		{rules("a", 60), "a/b", 0},
		{rules("a", 60), "", 0},
		{rules("a/b", 60), "a", 0},
		{rules("INBOX", 60), "inbox", 0},
		{rules("", 60), "", 60},
		{rules("a", 1, "b", 2, "c", 3), "a", 1},
		{rules("a", 1, "b", 2, "c", 3), "b", 2},
		{rules("a", 1, "b", 2, "c", 3), "c", 3},
		{rules("a", 1, "a", 2), "a", 1},
		{rules("a", 2, "a", 1), "a", 2},
		{rules("a", 0, "a", 1), "a", 0},
		{rules("a", -3, "a", 1), "a", -3},
		{rules("c", 3, "a", 4, "b", 5, "a", 6, "c", 7), "a", 4},
		{rules("c", 3, "a", 4, "b", 5, "a", 6, "c", 7), "c", 3},
		{rules("a", -1), "a", -1},
		{rules("a", least), "a", least},
		{rules("a", most), "a", most},
		{rules("\xff", 9), "\xff", 9},
		{rules("\xff", 9), "\u00ff", 0},
	} {
		if got := likeKeep(t, c.l, c.box); got != c.want {
			t.Errorf("Keep of %q in%s: %d", c.box, told(c.l), got)
		}
	}
	all := []api.Rule{}
	for i, s := range names {
		all = append(all, api.Rule{Box: s, Keep: i + 1})
	}
	for i, s := range names {
		if got := likeKeep(t, all, s); got != i+1 {
			t.Errorf("Keep of %q among all: %d", s, got)
		}
		if got := likeKeep(t, slices.Delete(slices.Clone(all), i, i+1), s); got != 0 {
			t.Errorf("Keep of %q among the others: %d", s, got)
		}
	}
}

// nums: a message's, and what is none.
var nums = []int{least, -top, -2, -1, 0, 1, 2, 3, 4, 5, 6, 7, 8, 9, 10, 1 << 31, top - 1, top, top + 1, top + 2, 1 << 40, most}

// heldOf: the numbers of a mailbox that holds hold.
func heldOf(t *testing.T, l []api.Hold, box string) []int {
	t.Helper()
	held := []int{}
	for _, n := range nums {
		if likeHeld(t, l, box, n) {
			held = append(held, n)
		}
	}
	return held
}

// P13.1: which numbers one hold holds of its mailbox; of another one it holds none.
func TestHeldSets(t *testing.T) {
	wrong := []int{least, -top, -2, -1}
	above := []int{top + 1, top + 2, 1 << 40, most}
	right := nums[5 : len(nums)-len(above)]
	for _, c := range []struct {
		set  []api.Range
		want []int
	}{
		{nil, nums},
		{[]api.Range{}, nums},
		{ends(5, 5), []int{5}},
		{ends(4, 7), []int{4, 5, 6, 7}},
		{ends(7, 4), []int{4, 5, 6, 7}},
		{ends(0, 0), []int{top}},
		{ends(9, 0), []int{9, 10, 1 << 31, top - 1, top}},
		{ends(0, 9), []int{9, 10, 1 << 31, top - 1, top}},
		{ends(1, 0), right},
		{ends(0, 1), right},
		{ends(top, top), []int{top}},
		{ends(top, 0), []int{top}},
		{ends(top-1, top), []int{top - 1, top}},
		{ends(1, top), right},
		{ends(top, 1), right},
		{ends(top+1, top+1), []int{top + 1}},
		{ends(0, top+1), []int{top, top + 1}},
		{ends(top+1, 0), []int{top, top + 1}},
		{ends(top+2, most), above[1:]},
		{ends(-1, -1), nil},
		{ends(-1, -5), nil},
		{ends(least, -1), nil},
		{ends(-1, 3), []int{1, 2, 3}},
		{ends(3, least), []int{1, 2, 3}},
		{ends(-1, 0), right},
		{ends(0, least), right},
		{ends(least, most), append(slices.Clone(right), above...)},
		{ends(2, 2, 9, 8, 0, 0), []int{2, 8, 9, top}},
		{ends(9, 8, 3, 3, 3, 4), []int{3, 4, 8, 9}},
		{ends(1, 1, 3, 3), []int{1, 3}},
		{slices.Concat(slices.Repeat(ends(1, 1), 59), ends(6, 6)), []int{1, 6}},
		{slices.Concat(slices.Repeat(ends(1, 1), 60), ends(6, 6)), []int{1, 6}},
		{slices.Concat(slices.Repeat(ends(1, 1), 999), ends(6, 6)), []int{1, 6}},
	} {
		l := []api.Hold{{ID: 1, Box: "a", Set: c.set}}
		if got := heldOf(t, l, "a"); !slices.Equal(got, c.want) {
			t.Errorf("%.20v holds %v", c.set, got)
		}
		for _, box := range []string{"b", "", "A", "aa", "a/b"} {
			if got := heldOf(t, l, box); len(got) > 0 {
				t.Errorf("%.20v of a holds %v of %q", c.set, got, box)
			}
		}
		if len(c.set) > 0 && slices.ContainsFunc(wrong, func(n int) bool { return likeHeld(t, l, "a", n) }) {
			t.Errorf("%.20v holds what is no number", c.set)
		}
	}
}

// P13.1: each hold alone may hold; none holds for another mailbox; a hold's ID means nothing.
func TestHeldLists(t *testing.T) {
	for i, c := range []struct {
		l    []api.Hold
		box  string
		want []int
	}{
		{nil, "a", nil},
		{[]api.Hold{}, "a", nil},
		{[]api.Hold{hold("b")}, "a", nil},
		{[]api.Hold{{}}, "", nums},
		{[]api.Hold{{}}, "a", nil},
		{[]api.Hold{hold("a", 1, 1), hold("a", 3, 3)}, "a", []int{1, 3}},
		{[]api.Hold{hold("b", 1, 1), hold("a", 3, 3)}, "a", []int{3}},
		{[]api.Hold{hold("b", 1, 1), hold("a", 3, 3)}, "b", []int{1}},
		{[]api.Hold{hold("b"), hold("c"), hold("a", 9, 9), hold("a", 4, 4)}, "a", []int{4, 9}},
		{[]api.Hold{hold("b"), hold("a", 9, 9), hold("a", 0, 0), hold("a")}, "a", nums},
		{[]api.Hold{hold("a"), hold("a", 9, 9)}, "a", nums},
		{[]api.Hold{{ID: -1, Box: "a", Set: ends(2, 2)}, {ID: 0, Box: "a", Set: ends(4, 4)}, {ID: most, Box: "a", Set: ends(6, 6)}}, "a", []int{2, 4, 6}},
		{slices.Concat(slices.Repeat([]api.Hold{hold("a", 1, 1)}, 15), []api.Hold{hold("a", 5, 5)}), "a", []int{1, 5}},
		{slices.Concat(slices.Repeat([]api.Hold{hold("a", 1, 1)}, 16), []api.Hold{hold("a", 5, 5)}), "a", []int{1, 5}},
		{slices.Concat(slices.Repeat([]api.Hold{hold("b")}, 999), []api.Hold{hold("a", 5, 5)}), "a", []int{5}},
	} {
		if got := heldOf(t, c.l, c.box); !slices.Equal(got, c.want) {
			t.Errorf("list %d holds %v of %q, not %v", i, got, c.box, c.want)
		}
	}
	for i, s := range names {
		for j, other := range names {
			if likeHeld(t, []api.Hold{hold(s)}, other, 1) != (i == j) {
				t.Errorf("a hold of %q, asked of %q", s, other)
			}
		}
	}
}

// P13.1: one below a tomb's time, at it, and above it.
func TestRipe(t *testing.T) {
	for _, c := range []struct{ at, keep, ripe int }{
		{0, 0, 0}, {5, 0, 5}, {0, 5, 5}, {5, 60, 65}, {1 << 40, 1 << 40, 1 << 41},
		{-1, 0, 0}, {0, -1, 0}, {-1, -1, 0}, {-5, 60, 60}, {5, -60, 5}, {-60, 5, 5}, {60, -5, 60}, {-5, -60, 0},
		{least, 0, 0}, {0, least, 0}, {least, least, 0}, {least, 7, 7}, {7, least, 7}, {least, most, bound}, {most, least, bound},
		{bound, 0, bound}, {0, bound, bound}, {bound - 1, 1, bound}, {1, bound - 1, bound}, {bound / 2, bound / 2, bound},
		{bound - 1, 0, bound - 1}, {0, bound - 1, bound - 1}, {bound - 2, 1, bound - 1}, {bound/2 - 1, bound / 2, bound - 1}, {1, bound - 2, bound - 1},
		{bound + 1, 0, bound}, {0, bound + 1, bound}, {bound, 1, bound}, {1, bound, bound}, {bound/2 + 1, bound / 2, bound}, {bound - 1, 2, bound},
		{bound, bound, bound}, {bound - 1, bound - 1, bound}, {bound + 1, bound, bound}, {bound, bound - 1, bound}, {bound + 1, -1, bound}, {bound - 1, -1, bound - 1},
		{most, 0, bound}, {0, most, bound}, {most, 1, bound}, {1, most, bound}, {most, most, bound}, {most, bound, bound}, {bound, most, bound}, {most, -1, bound}, {-1, most, bound}, {most - 1, 2, bound},
	} {
		x := tomb(3, "a", c.at, 7)
		for _, now := range []int{least, -bound, -1, c.ripe - 1, c.ripe, c.ripe + 1, bound, bound + 1, most} {
			if likeRipe(t, x, c.keep, now) != (now >= c.ripe) {
				t.Errorf("a tomb of %d, kept for %d, at %d: not %t", c.at, c.keep, now, now >= c.ripe)
			}
		}
	}
}

// P13.1: all times of a few, as a tomb's, a keep, and now; nothing else of a tomb counts.
func TestRipeAll(t *testing.T) {
	times := []int{}
	for _, n := range []int{0, 1 << 40, 1 << 61, bound, bound + bound/2} {
		times = append(times, n-2, n-1, n, n+1, n+2)
	}
	times = append(times, least, least+1, -bound, -bound-1, -1<<40, most-1, most, 5, 60, 64, 65)
	for _, at := range times {
		for _, keep := range times {
			for _, now := range times {
				want := ownRipe(at, keep, now)
				bare := api.Tomb{At: at}
				full := api.Tomb{ID: now, Box: "a", At: at, Msg: api.Msg{UID: keep, Flags: now, Date: keep}}
				if rule.Ripe(bare, keep, now) != want || rule.Ripe(full, keep, now) != want {
					t.Fatalf("a tomb of %d, kept for %d, at %d: not %t", at, keep, now, want)
				}
			}
		}
	}
}

// P13.1: ripe and held, ripe and not held, held and not ripe, neither; rules and holds of that mailbox and of others.
func TestGoes(t *testing.T) {
	x := tomb(4, "a", 5, 7)
	for i, c := range []struct {
		rules []api.Rule
		holds []api.Hold
		now   int
		want  bool
	}{
		{nil, nil, 4, false},
		{nil, nil, 5, true},
		{nil, nil, most, true},
		{nil, nil, least, false},
		{nil, []api.Hold{hold("a")}, 5, false},
		{nil, []api.Hold{hold("a")}, 4, false},
		{nil, []api.Hold{hold("a")}, most, false},
		{nil, []api.Hold{hold("a", 7, 7)}, 5, false},
		{nil, []api.Hold{hold("a", 4, 4)}, 5, true}, // a hold is of a message's number, not of a tomb's
		{nil, []api.Hold{hold("a", 6, 6, 8, 8)}, 5, true},
		{nil, []api.Hold{hold("b")}, 5, true},
		{nil, []api.Hold{hold("b"), hold("a", 9, 6)}, 5, false},
		{rules("a", 60), nil, 64, false},
		{rules("a", 60), nil, 65, true},
		{rules("a", 60), []api.Hold{hold("a", 7, 7)}, 64, false},
		{rules("a", 60), []api.Hold{hold("a", 7, 7)}, 65, false},
		{rules("a", 60), []api.Hold{hold("b", 7, 7)}, 65, true},
		{rules("a", 60), []api.Hold{hold("b", 7, 7)}, 64, false},
		{rules("b", 60), nil, 4, false},
		{rules("b", 60), nil, 5, true},
		{rules("a", 2, "b", 60), nil, 6, false},
		{rules("a", 2, "b", 60), nil, 7, true},
		{rules("a", 60, "a", 2), nil, 7, false},
		{rules("a", 2, "a", 60), nil, 7, true},
		{rules("a", -60), nil, 4, false},
		{rules("a", -60), nil, 5, true},
		{rules("a", most), nil, most, true},
		{rules("a", most), nil, bound, true},
		{rules("a", most), nil, bound - 1, false},
		{rules("a/b", 60, "A", 60, "", 60), []api.Hold{hold("a/b"), hold("A"), hold("")}, 5, true},
	} {
		if likeGoes(t, x, c.rules, c.holds, c.now) != c.want {
			t.Errorf("case %d: not %t", i, c.want)
		}
		if ids := likeDue(t, []api.Tomb{x}, c.rules, c.holds, c.now); slices.Equal(ids, []int{4}) != c.want {
			t.Errorf("case %d: Due %v", i, ids)
		}
	}
}

// P13.1: a tomb of no mailbox, or of a number that may not be, is asked like any other one.
func TestGoesOdd(t *testing.T) {
	for _, box := range names {
		for _, uid := range nums {
			for _, at := range []int{least, -1, 0, 5, bound, most} {
				x := tomb(-3, box, at, uid)
				for _, holds := range [][]api.Hold{nil, {hold(box)}, {hold(box, -1, top+1)}, {hold("other")}} {
					for _, now := range []int{-1, 0, 5, 8, 9, bound} {
						likeGoes(t, x, rules("INBOX", 3, "a", -4, "a/b", most, "b", 4), holds, now)
					}
				}
			}
		}
	}
}

// P13.1: the IDs of those that may go, in their order, whatever they are.
func TestDue(t *testing.T) {
	l := []api.Tomb{tomb(3, "a", 10, 6), tomb(5, "b", 4, 6), tomb(6, "a", 2, 9), tomb(9, "c", 7, 1)}
	all := []int{3, 5, 6, 9}
	odd := []api.Tomb{tomb(9, "a", 1, 1), tomb(2, "a", 1, 2), tomb(9, "a", 1, 3), tomb(0, "a", 1, 4), tomb(-5, "a", 1, 5), tomb(most, "a", 1, 6), tomb(2, "a", 1, 2)}
	for i, c := range []struct {
		l     []api.Tomb
		rules []api.Rule
		holds []api.Hold
		now   int
		want  []int
	}{
		{nil, nil, nil, 5, nil},
		{[]api.Tomb{}, rules("a", 1), []api.Hold{hold("a")}, most, nil},
		{l, nil, nil, 1, nil},
		{l, nil, nil, 2, []int{6}},
		{l, nil, nil, 4, []int{5, 6}},
		{l, nil, nil, 9, []int{5, 6, 9}},
		{l, nil, nil, 10, all},
		{l, nil, nil, most, all},
		{l, nil, nil, -1, nil},
		{l, rules("a", 60), nil, 61, []int{5, 9}},
		{l, rules("a", 60), nil, 62, []int{5, 6, 9}},
		{l, rules("a", 60), nil, 69, []int{5, 6, 9}},
		{l, rules("a", 60), nil, 70, all},
		{l, rules("a", most, "b", 3, "c", most), nil, most, all},
		{l, rules("a", most, "b", 3, "c", most), nil, 1 << 40, []int{5}},
		{l, nil, []api.Hold{hold("a"), hold("b"), hold("c")}, most, nil},
		{l, nil, []api.Hold{hold("a")}, most, []int{5, 9}},
		{l, nil, []api.Hold{hold("a", 9, 0)}, most, []int{3, 5, 9}},
		{l, nil, []api.Hold{hold("a", 5, 7), hold("b", 5, 5), hold("c", 0, 2)}, most, []int{5, 6, 9}},
		{l, rules("b", 60), []api.Hold{hold("a", 6, 6)}, 10, []int{6, 9}},
		{odd, nil, nil, 1, []int{9, 2, 9, 0, -5, most, 2}},
		{odd, nil, []api.Hold{hold("a", 3, 3)}, 1, []int{9, 2, 0, -5, most, 2}},
		{odd, nil, []api.Hold{hold("a", 2, 6)}, 1, []int{9}},
		{odd, nil, nil, 0, nil},
		{slices.Repeat(l[:1], 3), nil, nil, 10, []int{3, 3, 3}},
	} {
		if ids := likeDue(t, c.l, c.rules, c.holds, c.now); !slices.Equal(ids, c.want) {
			t.Errorf("case %d: %v, not %v", i, ids, c.want)
		}
	}
}

// P13.1: more tombs, rules and holds than a state may have.
func TestDueMany(t *testing.T) {
	var tombs []api.Tomb
	var keeps []api.Rule
	var holds []api.Hold
	for i := range 200 {
		box := fmt.Sprint("box", i%50)
		tombs = append(tombs, tomb(i+1, box, i, i+1))
		if i < 50 {
			keeps = append(keeps, api.Rule{Box: box, Keep: i * 3})
			holds = append(holds, hold(box, i+1, i+60))
		}
	}
	sizes := map[int]bool{}
	for now := range 400 {
		sizes[len(likeDue(t, tombs, keeps, holds, now))] = true
	}
	if len(sizes) < 50 {
		t.Errorf("%d unlike numbers of tombs", len(sizes))
	}
}

// P13.1: a rule in its place, in place of the one that is there, or gone.
func TestSet(t *testing.T) {
	l := rules("b", 5, "d", 6)
	one := rules("b", 5)
	for _, c := range []struct {
		l    []api.Rule
		box  string
		keep int
		want []api.Rule
	}{
		{nil, "a", 60, rules("a", 60)},
		{nil, "a", 0, nil},
		{nil, "a", -1, nil},
		{rules(), "a", 1, rules("a", 1)},
		{rules(), "a", 0, nil},
		{rules(), "", 1, rules("", 1)},
		{l, "a", 60, rules("a", 60, "b", 5, "d", 6)},
		{l, "c", 60, rules("b", 5, "c", 60, "d", 6)},
		{l, "e", 60, rules("b", 5, "d", 6, "e", 60)},
		{l, "b", 60, rules("b", 60, "d", 6)},
		{l, "d", 60, rules("b", 5, "d", 60)},
		{l, "b", 5, l},
		{l, "b", 1, rules("b", 1, "d", 6)},
		{l, "b", most, rules("b", most, "d", 6)},
		{l, "c", most, rules("b", 5, "c", most, "d", 6)},
		{l, "b", 0, rules("d", 6)},
		{l, "d", 0, one},
		{l, "b", -1, rules("d", 6)},
		{l, "d", least, one},
		{l, "a", 0, l},
		{l, "c", 0, l},
		{l, "e", 0, l},
		{l, "a", -1, l},
		{l, "c", least, l},
		{l, "e", -60, l},
		{one, "b", 0, nil},
		{one, "b", -1, nil},
		{one, "b", 7, rules("b", 7)},
		{one, "", 7, rules("", 7, "b", 5)},
		{one, "B", 7, rules("B", 7, "b", 5)},
		{one, "b/c", 7, rules("b", 5, "b/c", 7)},
		{one, "\xff", 7, rules("b", 5, "\xff", 7)},
		{one, "b\x00", 0, one},
		// What else stands there stays, whatever it is.
		{rules("a", 0, "b", -5, "c", least), "bb", 1, rules("a", 0, "b", -5, "bb", 1, "c", least)},
		{rules("a", 0, "b", -5, "c", least), "b", 1, rules("a", 0, "b", 1, "c", least)},
		{rules("a", 0, "b", -5, "c", least), "b", 0, rules("a", 0, "c", least)},
		{rules("a", 0, "b", -5, "c", least), "d", 0, rules("a", 0, "b", -5, "c", least)},
	} {
		if got := likeSet(t, c.l, c.box, c.keep); !slices.Equal(got, c.want) {
			t.Errorf("%q set to %d in%s:%s", c.box, c.keep, told(c.l), told(got))
		}
	}
}

// P13.1: each name, at each place among each choice of the others.
func TestSetAll(t *testing.T) {
	sorted := slices.Sorted(slices.Values([]string{"", "A", "a", "a/b", "aa", "b", "\u00e4", "\xff"}))
	for choice := range 1 << len(sorted) {
		l := []api.Rule{}
		for i, s := range sorted {
			if choice>>i%2 == 1 {
				l = append(l, api.Rule{Box: s, Keep: 10 + i})
			}
		}
		for _, s := range sorted {
			for _, keep := range []int{least, -1, 0, 1, 12, most} {
				likeSet(t, l, s, keep)
			}
		}
	}
}

// P13.1: rules beyond those that a state may have: none is refused here.
func TestSetMany(t *testing.T) {
	l := []api.Rule{}
	for i := range 300 {
		l = likeSet(t, l, fmt.Sprint("box", i*7%300), i+1)
		if len(l) != i+1 {
			t.Fatalf("%d rules, not %d", len(l), i+1)
		}
	}
	for i := range 300 {
		l = likeSet(t, l, fmt.Sprint("box", i*11%300), -i)
		if len(l) != 299-i {
			t.Fatalf("%d rules, not %d", len(l), 299-i)
		}
	}
}

// P13.1: of rules whose names don't rise nothing is promised of Set, but that it ends, and changes nothing that was lent.
func TestSetOdd(t *testing.T) {
	for _, l := range [][]api.Rule{rules("b", 1, "a", 2), rules("a", 1, "a", 2), rules("b", 1, "b", 2, "b", 3), rules("c", 1, "a", 2, "b", 3, "a", 4), rules("", 1, "", -1)} {
		for _, s := range []string{"", "a", "b", "bb", "z"} {
			for _, keep := range []int{-1, 0, 9} {
				y := lend(l, nil, nil)
				before := y.String()
				spoil(rule.Set(y.rules, s, keep), api.Rule{Box: "spoiled"})
				if y.String() != before {
					t.Errorf("Set of %q to %d has changed%s", s, keep, told(l))
				}
			}
		}
	}
}

// pick: any of a list.
func pick[T any](r *rand.Rand, l ...T) T { return l[r.Intn(len(l))] }

func someBox(r *rand.Rand) string { return pick(r, "a", "b", "c", "a/b", "INBOX") }

func someNum(r *rand.Rand) int { return pick(r, r.Intn(12), r.Intn(12), r.Intn(12), pick(r, nums...)) }

func someTime(r *rand.Rand) int {
	return pick(r, r.Intn(40), r.Intn(40), r.Intn(40), pick(r, -1, 0, least, most, bound, bound-1, bound+1))
}

// someRules: none to six, in any order.
func someRules(r *rand.Rand) []api.Rule {
	var l []api.Rule
	for range r.Intn(7) {
		l = append(l, api.Rule{Box: someBox(r), Keep: someTime(r)})
	}
	return l
}

// someHold: of all, or of one to three ranges.
func someHold(r *rand.Rand) api.Hold {
	h := api.Hold{ID: r.Intn(9), Box: someBox(r)}
	for range r.Intn(5) {
		h.Set = append(h.Set, api.Range{From: someNum(r), To: someNum(r)})
	}
	return h
}

// someHolds: none to six.
func someHolds(r *rand.Rand) []api.Hold {
	var l []api.Hold
	for range r.Intn(7) {
		l = append(l, someHold(r))
	}
	return l
}

// someTombs: none to nine.
func someTombs(r *rand.Rand) []api.Tomb {
	var l []api.Tomb
	for range r.Intn(10) {
		l = append(l, tomb(r.Intn(99), someBox(r), someTime(r), someNum(r)))
	}
	return l
}

// P13.1: rules, holds and tombs by chance, held against the chapter's words.
func TestByChance(t *testing.T) {
	r := rand.New(rand.NewSource(13))
	gone, stayed := 0, 0
	for range 3000 {
		tombs, keeps, holds, now := someTombs(r), someRules(r), someHolds(r), someTime(r)
		likeKeep(t, keeps, someBox(r))
		likeHeld(t, holds, someBox(r), someNum(r))
		n := len(likeDue(t, tombs, keeps, holds, now))
		gone += n
		stayed += len(tombs) - n
		for _, x := range tombs {
			likeGoes(t, x, keeps, holds, now)
		}
	}
	if gone < 1000 || stayed < 1000 {
		t.Errorf("%d tombs may go, %d not", gone, stayed)
	}
}

// P13.1: long runs of setting rules; the rules of other mailboxes stay as they are.
func TestSetRuns(t *testing.T) {
	r := rand.New(rand.NewSource(131))
	for range 60 {
		l := []api.Rule{}
		for range 60 {
			s := someBox(r)
			before := l
			l = likeSet(t, l, s, someTime(r))
			for _, other := range []string{"a", "b", "c", "a/b", "INBOX", "d"} {
				if other != s && rule.Keep(l, other) != rule.Keep(before, other) {
					t.Fatalf("%q is kept otherwise", other)
				}
			}
		}
	}
}
