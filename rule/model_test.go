package rule_test

import (
	"fmt"
	"maps"
	"math/big"
	"slices"
	"strings"
	"testing"

	"escheat/api"
	"escheat/rule"
)

// What the chapter's words say, in the tests' own way: rules are gone through from the last one on, times are great numbers of the library, a set's ends are laid in order ahead of asking, holds that hold are counted, and rules are changed in a map.

const (
	least = -1 << 63
	most  = 1<<63 - 1
	top   = 4294967295 // the greatest number of a message
	bound = 1 << 62    // the latest time at which a tomb is ripe
)

func ownKeep(l []api.Rule, box string) int {
	keep := 0
	for _, r := range slices.Backward(l) {
		if r.Box == box {
			keep = r.Keep
		}
	}
	return keep
}

// ownIn: is a number in one of the ranges, * being the greatest number of a message?
func ownIn(set []api.Range, n int) bool {
	in := false
	for _, r := range set {
		ends := []int{r.From, r.To}
		for i := range ends {
			if ends[i] == 0 {
				ends[i] = top
			}
		}
		slices.Sort(ends)
		in = in || n > 0 && ends[0] <= n && n <= ends[1]
	}
	return in
}

func ownHeld(l []api.Hold, box string, uid int) bool {
	n := 0
	for _, h := range l {
		if h.Box == box && (len(h.Set) == 0 || ownIn(h.Set, uid)) {
			n++
		}
	}
	return n > 0
}

func ownRipe(at, keep, now int) bool {
	sum := new(big.Int)
	for _, n := range []int{at, keep} {
		if n > 0 {
			sum.Add(sum, big.NewInt(int64(n)))
		}
	}
	if sum.Cmp(big.NewInt(bound)) > 0 {
		sum.SetInt64(bound)
	}
	return big.NewInt(int64(now)).Cmp(sum) >= 0
}

func ownGoes(x api.Tomb, rules []api.Rule, holds []api.Hold, now int) bool {
	if ownHeld(holds, x.Box, x.Msg.UID) {
		return false
	}
	return ownRipe(x.At, ownKeep(rules, x.Box), now)
}

func ownDue(l []api.Tomb, rules []api.Rule, holds []api.Hold, now int) []int {
	var ids []int
	for i := range l {
		if ownGoes(l[i], rules, holds, now) {
			ids = append(ids, l[i].ID)
		}
	}
	return ids
}

// ownSet: of rules of rising names, none of which comes twice.
func ownSet(l []api.Rule, box string, keep int) []api.Rule {
	all := map[string]int{}
	for _, r := range l {
		all[r.Box] = r.Keep
	}
	all[box] = keep
	if keep < 1 {
		delete(all, box)
	}
	var after []api.Rule
	for _, name := range slices.Sorted(maps.Keys(all)) {
		after = append(after, api.Rule{Box: name, Keep: all[name]})
	}
	return after
}

func told(l []api.Rule) string {
	var s strings.Builder
	for _, r := range l {
		fmt.Fprintf(&s, " (%q %d)", r.Box, r.Keep)
	}
	return s.String()
}

func room[T any](l []T) []T { return l[:cap(l)] }

// roomy: the same list, in memory of its own, with spare room behind it.
func roomy[T any](l []T, spare T) []T {
	if l == nil {
		return nil
	}
	return slices.Concat(l, []T{spare, spare})[:len(l)]
}

// lent is what a call may be lent, in memory of its own, with spare room behind each list.
type lent struct {
	rules []api.Rule
	holds []api.Hold
	tombs []api.Tomb
}

func lend(rules []api.Rule, holds []api.Hold, tombs []api.Tomb) lent {
	y := lent{roomy(rules, api.Rule{Box: "spare", Keep: 77}), roomy(holds, api.Hold{ID: 77, Box: "spare"}), roomy(tombs, api.Tomb{ID: 77, Box: "spare"})}
	for i, h := range y.holds {
		y.holds[i].Set = roomy(h.Set, api.Range{From: 77, To: 88})
	}
	for i, x := range y.tombs {
		y.tombs[i].Msg.Body = roomy(x.Msg.Body, '<')
	}
	return y
}

// String tells all that is lent, with the spare room.
func (y lent) String() string {
	s := fmt.Sprintf("%d rules%s; %d holds", len(y.rules), told(room(y.rules)), len(y.holds))
	for _, h := range room(y.holds) {
		s += fmt.Sprintf(" (%d %q %d: %d)", h.ID, h.Box, len(h.Set), room(h.Set))
	}
	s += fmt.Sprintf("; %d tombs", len(y.tombs))
	for _, x := range room(y.tombs) {
		s += fmt.Sprintf(" (%d %q %d: %d %d %d %d %q)", x.ID, x.Box, x.At, x.Msg.UID, x.Msg.Flags, x.Msg.Date, len(x.Msg.Body), room(x.Msg.Body))
	}
	return s
}

// spoil writes over a list and its spare room.
func spoil[T any](l []T, v T) {
	for i := range room(l) {
		room(l)[i] = v
	}
}

// stays: what a call answers is what the model says, asked twice; what it was lent stays as it was.
func stays[T comparable](t *testing.T, what string, y lent, want T, call func() T) T {
	t.Helper()
	before := y.String()
	got := call()
	if again := call(); got != want || again != want {
		t.Errorf("%s: %v, asked again %v, not %v, of %.500s", what, got, again, want, before)
	}
	if after := y.String(); after != before {
		t.Errorf("%s: what was lent is another one: %.500s, not %.500s", what, after, before)
	}
	return got
}

// likeKeep: the model's answer.
func likeKeep(t *testing.T, l []api.Rule, box string) int {
	t.Helper()
	y := lend(l, nil, nil)
	return stays(t, fmt.Sprintf("Keep of %q", box), y, ownKeep(l, box), func() int { return rule.Keep(y.rules, box) })
}

func likeHeld(t *testing.T, l []api.Hold, box string, uid int) bool {
	t.Helper()
	y := lend(nil, l, nil)
	return stays(t, fmt.Sprintf("Held of %q %d", box, uid), y, ownHeld(l, box, uid), func() bool { return rule.Held(y.holds, box, uid) })
}

func likeRipe(t *testing.T, x api.Tomb, keep, now int) bool {
	t.Helper()
	y := lend(nil, nil, []api.Tomb{x})
	return stays(t, fmt.Sprintf("Ripe with %d, at %d", keep, now), y, ownRipe(x.At, keep, now), func() bool { return rule.Ripe(y.tombs[0], keep, now) })
}

func likeGoes(t *testing.T, x api.Tomb, rules []api.Rule, holds []api.Hold, now int) bool {
	t.Helper()
	y := lend(rules, holds, []api.Tomb{x})
	return stays(t, fmt.Sprintf("Goes at %d", now), y, ownGoes(x, rules, holds, now), func() bool { return rule.Goes(y.tombs[0], y.rules, y.holds, now) })
}

// likeDue: likewise, and the list that is answered is one of its own.
func likeDue(t *testing.T, l []api.Tomb, rules []api.Rule, holds []api.Hold, now int) []int {
	t.Helper()
	y := lend(rules, holds, l)
	var ids []int
	stays(t, fmt.Sprintf("Due at %d", now), y, fmt.Sprint(ownDue(l, rules, holds, now)), func() string {
		spoil(ids, -7)
		ids = rule.Due(y.tombs, y.rules, y.holds, now)
		return fmt.Sprint(ids)
	})
	spoil(y.tombs, api.Tomb{ID: -8})
	if want := ownDue(l, rules, holds, now); !slices.Equal(ids, want) {
		t.Errorf("Due at %d hangs on what was lent: %v, not %v", now, ids, want)
	}
	return ids
}

// likeSet: likewise, of rules of rising names; the names of what is answered rise, and its Keep is what was set.
func likeSet(t *testing.T, l []api.Rule, box string, keep int) []api.Rule {
	t.Helper()
	y := lend(l, nil, nil)
	what := fmt.Sprintf("Set of %q to %d", box, keep)
	want := ownSet(l, box, keep)
	var after []api.Rule
	stays(t, what, y, told(want), func() string {
		spoil(after, api.Rule{Box: "spoiled", Keep: -7})
		after = rule.Set(y.rules, box, keep)
		return told(after)
	})
	spoil(y.rules, api.Rule{Box: "spoiled too", Keep: -8})
	if !slices.Equal(after, want) {
		t.Errorf("%s hangs on what was lent:%s, not%s", what, told(after), told(want))
	}
	for i := 1; i < len(after); i++ {
		if after[i-1].Box >= after[i].Box {
			t.Errorf("%s: the names don't rise:%s", what, told(after))
		}
	}
	if got := rule.Keep(after, box); got != max(keep, 0) {
		t.Errorf("%s: Keep is %d then", what, got)
	}
	return after
}
