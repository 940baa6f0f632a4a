package keep_test

import (
	"fmt"
	"slices"
	"strings"
	"testing"

	"escheat/api"
	"escheat/keep"
	"escheat/state"
)

// refuses: Load answers ErrForm alone.
func refuses(t *testing.T, what string, l []api.Pair) {
	t.Helper()
	if x := likeLoad(t, what, l); x.Err != int(api.ErrForm) {
		t.Errorf("%s: error %d", what, x.Err)
	}
	if s, c, e := keep.Load(l); e != api.ErrForm || told(s) != told(api.State{}) || c != (api.Chain{}) {
		t.Errorf("%s: error %d, and beside it %s, %v", what, e, short(told(s)), c)
	}
}

// loads: Load answers a state and a chain.
func loads(t *testing.T, what string, l []api.Pair, s api.State, c api.Chain) {
	t.Helper()
	if x := likeLoad(t, what, l); x.Err != 0 || !state.Same(x.State, s) || x.Chain != c {
		t.Errorf("%s: error %d, %s, %v", what, x.Err, short(told(x.State)), x.Chain)
	}
}

// P17.1: back from Keys, and there again.
func TestLoad(t *testing.T) {
	for name, s := range states() {
		for _, c := range chains() {
			l := keep.Keys(s, c)
			loads(t, name, l, s, c)
			back, d, _ := keep.Load(l)
			sameKeys(t, name, keep.Keys(back, d), l)
		}
	}
}

// P17.1: records' keys are nothing to Load, whichever they are, wherever they stand, and whatever their values are.
func TestLoadRecords(t *testing.T) {
	for name, s := range states() {
		l := keep.Keys(s, chain(3))
		more := []api.Pair{pair("r", ""), pair("r0000000001", "x"), pair("r1", "\x00"), pair("rest", strings.Repeat("long", 5000)), pair("r\xff\xff", "y")}
		between := slices.Concat(l, more)
		slices.SortFunc(between, func(a, b api.Pair) int { return strings.Compare(a.Key, b.Key) })
		loads(t, name+", between", between, s, chain(3))
		loads(t, name+", behind", slices.Concat(l, more), s, chain(3))
		loads(t, name+", ahead", slices.Concat(more, l), s, chain(3))
		for _, at := range []int{0, 1} {
			refuses(t, name+", left out "+between[at].Key, slices.Delete(slices.Clone(between), at, at+1))
		}
	}
	refuses(t, "records alone", records(3))
}

// P17.1: a key left out, doubled, out of its order, or with another name.
func TestLoadKeys(t *testing.T) {
	l := keep.Keys(some(), chain(3))
	for i, p := range l {
		left := slices.Delete(slices.Clone(l), i, i+1)
		x := likeLoad(t, "left out "+p.Key, left)
		// Without one of these, another state may be.
		may := p.Key == "b!" || p.Key == "bb" || strings.Contains("hmstu", p.Key[:1])
		if may != (x.Err == 0) {
			t.Errorf("left out %s: error %d", p.Key, x.Err)
		}
		refuses(t, "doubled "+p.Key, slices.Insert(slices.Clone(l), i, p))
		refuses(t, "doubled at the end "+p.Key, append(slices.Clone(l), p))
		for _, at := range []int{0, 1, i + 1, i + 2, len(l) - 1} {
			if at != i && at < len(l) {
				refuses(t, fmt.Sprint(p.Key, " at ", at), slices.Insert(slices.Clone(left), at, p))
			}
		}
		for _, key := range []string{"", "x", p.Key + "x", p.Key + "\x00", p.Key + " ", p.Key[:len(p.Key)-1], p.Key[1:], p.Key[:1] + "0" + p.Key[1:], "\x00" + p.Key} {
			other := append(slices.Clone(left), pair(key, p.Val))
			slices.SortFunc(other, func(a, b api.Pair) int { return strings.Compare(a.Key, b.Key) })
			likeLoad(t, p.Key+" is "+key, other)
		}
	}
	backwards := slices.Clone(l)
	slices.Reverse(backwards)
	refuses(t, "backwards", backwards)
}

// P17.1: a key that there shouldn't be, at its place.
func TestLoadMore(t *testing.T) {
	l := keep.Keys(some(), chain(3))
	body := nums(1, 1, 1) + text("")
	for _, p := range []api.Pair{
		pair("", ""), pair("\x00", ""), pair("!!", nums(100, 11, 12, 7)), pair("!0", ""), pair("\"", ""), pair("##", l[1].Val), pair("$", ""), pair("a", ""), pair("c", nums(1)), pair("z", ""), pair("v", nums(7)), pair("\xff", ""),
		pair("b", nums(6, 1)), pair("bc d", nums(6, 1)), pair("b/", nums(6, 1)), pair("binbox", nums(6, 1)), pair("bc", nums(5, 1)), pair("bc", nums(11, 1)), pair("bc", nums(0, 1)), pair("bc", nums(6, 0)), pair("bc", nums(6, top+2)), pair("bc", ""),
		pair("h", text("a")+nums(0)), pair("h0000000000", text("a")+nums(0)), pair("h0000000007", text("a")+nums(0)), pair("h000000001", text("a")+nums(0)), pair("h00000000001", text("a")+nums(0)), pair("h1", text("a")+nums(0)), pair("h+000000001", text("a")+nums(0)), pair("h-000000001", text("a")+nums(0)), pair("h0000000_01", text("a")+nums(0)), pair("h0x00000001", text("a")+nums(0)), pair("h99999999999999999999", text("a")+nums(0)), pair("h0000000001", text("inbox")+nums(0)), pair("h0000000001", text("a")+nums(1, 1)), pair("h0000000001", text("a")+nums(1, top+1, 1)), pair("h0000000001", text("a")+nums(61)+nums(make([]int, 122)...)), pair("h0000000001", text("a")+nums(1<<40)), pair("h0000000001", nums(0)),
		pair("m", body), pair("m0000000001", body), pair("m00000000100000000001", body), pair("m000000001000000000010", body), pair("m00000000060000000001", body), pair("m00000000090000000001", body), pair("m00000000090000000000", nums(0, 1, 1)+text("")), pair("m00000000010000000002", body), pair("m00000000010000000005", nums(5, 1, 1)+text("")), pair("m00000000010000000002", nums(2, 32, 1)+text("")), pair("m00000000010000000002", nums(2, 1, endTime+1)+text("")), pair("m00000000010000000002", nums(2, 1, 1)+text(strings.Repeat("x", 2001))), pair("m00000000010000000002", nums(2, 1, 1)+text(strings.Repeat("x", 4097))), pair("m+000000001+000000002", nums(2, 1, 1)+text("")), pair("m0000000001 000000002", nums(2, 1, 1)+text("")),
		pair("s", ""), pair("sb b", ""), pair("sinbox", ""), pair("sb", "x"), pair("sb", nums(1)),
		pair("t", nums(1)+text("a")+body), pair("t0000000000", nums(1)+text("a")+body), pair("t0000000012", nums(1)+text("a")+body), pair("t1", nums(1)+text("a")+body), pair("t00000000001", nums(1)+text("a")+body), pair("t+000000001", nums(1)+text("a")+body), pair("t0000000001", nums(101)+text("a")+body), pair("t0000000001", nums(1)+text("")+body), pair("t0000000001", nums(1)+text("a")+nums(0, 1, 1)+text("")), pair("t0000000001", nums(1)+text("a")), pair("t0000000001", ""), pair("t0000000001", nums(1)+text("a")+nums(1, 1, 1)+text(strings.Repeat("x", 2001))),
		pair("u", nums(1)), pair("ub b", nums(1)), pair("uinbox", nums(1)), pair("ub", nums(0)), pair("ub", nums(endTime+1)), pair("ub", nums(1<<62+1)), pair("ub", ""), pair("ub", nums(1, 1)),
	} {
		more := append(slices.Clone(l), p)
		slices.SortStableFunc(more, func(a, b api.Pair) int { return strings.Compare(a.Key, b.Key) })
		refuses(t, fmt.Sprintf("more: %.30q of %.30q", p.Key, p.Val), more)
	}
	for _, p := range []api.Pair{pair("bc", nums(6, 1)), pair("h0000000001", text("c")+nums(1, 0, top)), pair("m00000000010000000002", nums(2, 31, 0)+text("x")), pair("sb", ""), pair("t0000000001", nums(100)+text("q")+body), pair("ub", nums(1))} {
		more := append(slices.Clone(l), p)
		slices.SortFunc(more, func(a, b api.Pair) int { return strings.Compare(a.Key, b.Key) })
		if x := likeLoad(t, "more: "+p.Key, more); x.Err != 0 {
			t.Errorf("more: %s: error %d", p.Key, x.Err)
		}
	}
}

// P17.1: each value cut short anywhere, with a byte more at either end, and with each of its bytes another one.
func TestLoadValues(t *testing.T) {
	for name, s := range map[string]api.State{"first": newState(), "some": some()} {
		l := keep.Keys(s, chain(3))
		for i, p := range l {
			with := func(val string) []api.Pair {
				other := slices.Clone(l)
				other[i].Val = val
				return other
			}
			what := name + ", " + p.Key
			// Of a long body not each place is asked.
			gap := 1 + len(p.Val)/150
			for n := 0; n < len(p.Val); n += gap {
				refuses(t, fmt.Sprint(what, " cut to ", n), with(p.Val[:n]))
			}
			for _, more := range []string{"\x00", "x", "\xff", nums(0), p.Val} {
				if p.Val+more != p.Val {
					refuses(t, what+" and more", with(p.Val+more))
					refuses(t, what+" behind more", with(more+p.Val))
				}
			}
			for n := 0; n < len(p.Val); n += gap {
				for _, x := range []byte{1, 2, 128, 255} {
					val := []byte(p.Val)
					val[n] ^= x
					likeLoad(t, fmt.Sprint(what, " by ", x, " at ", n), with(string(val)))
				}
			}
		}
	}
}

// P17.1: values exchanged with one another.
func TestLoadExchanged(t *testing.T) {
	l := keep.Keys(some(), chain(3))
	for i := range l {
		for j := range i {
			other := slices.Clone(l)
			other[i].Val, other[j].Val = l[j].Val, l[i].Val
			if l[i].Val != l[j].Val {
				likeLoad(t, l[i].Key+" with "+l[j].Key, other)
			}
		}
	}
}

// wrongStates: none of them may be.
func wrongStates() map[string]api.State {
	return map[string]api.State{
		"nothing":           {},
		"Clock":             changed(func(s *api.State) { s.Clock = endTime + 1 }),
		"Clock of a tomb":   changed(func(s *api.State) { s.Clock = 99 }),
		"no INBOX":          changed(func(s *api.State) { s.Boxes = slices.Delete(s.Boxes, 1, 2) }),
		"no mailbox":        changed(func(s *api.State) { s.Boxes = nil }),
		"17 mailboxes":      {Boxes: boxes(17), NextValid: 99, NextTomb: 1, NextHold: 1},
		"a name":            changed(func(s *api.State) { s.Boxes[2].Name = "a " }),
		"one Valid":         changed(func(s *api.State) { s.Boxes[0].Valid = 9 }),
		"Valid 0":           changed(func(s *api.State) { s.Boxes[0].Valid = 0 }),
		"Valid too great":   changed(func(s *api.State) { s.Boxes[0].Valid = 11 }),
		"Next 0":            changed(func(s *api.State) { s.Boxes[0].Next = 0 }),
		"Next too great":    changed(func(s *api.State) { s.Boxes[0].Next = top + 2 }),
		"a UID":             changed(func(s *api.State) { s.Boxes[1].Next = 3 }),
		"41 messages":       changed(func(s *api.State) { s.Boxes[0].Next = 99; s.Boxes[0].Msgs = msgs(upTo(41)...) }),
		"flags":             changed(func(s *api.State) { s.Boxes[1].Msgs[0].Flags = 32 }),
		"a date":            changed(func(s *api.State) { s.Boxes[1].Msgs[0].Date = endTime + 1 }),
		"a body":            changed(func(s *api.State) { s.Boxes[1].Msgs[0].Body = make([]byte, 2001) }),
		"a sub":             changed(func(s *api.State) { s.Subs[1] = "b//b" }),
		"17 subs":           changed(func(s *api.State) { s.Subs = names(17) }),
		"a rule's name":     changed(func(s *api.State) { s.Rules[1].Box = "b/" }),
		"Keep 0":            changed(func(s *api.State) { s.Rules[1].Keep = 0 }),
		"Keep too great":    changed(func(s *api.State) { s.Rules[1].Keep = endTime + 1 }),
		"17 rules":          changed(func(s *api.State) { s.Rules = rules(17) }),
		"a tomb 0":          changed(func(s *api.State) { s.Tombs[0].ID = 0 }),
		"a tomb too great":  changed(func(s *api.State) { s.NextTomb = 10 }),
		"a tomb's name":     changed(func(s *api.State) { s.Tombs[1].Box = "" }),
		"a tomb's At":       changed(func(s *api.State) { s.Tombs[1].At = 101 }),
		"a tomb's UID":      changed(func(s *api.State) { s.Tombs[1].Msg.UID = 0 }),
		"a tomb's flags":    changed(func(s *api.State) { s.Tombs[1].Msg.Flags = 32 }),
		"a tomb's date":     changed(func(s *api.State) { s.Tombs[1].Msg.Date = endTime + 1 }),
		"61 tombs":          changed(func(s *api.State) { s.NextTomb, s.Tombs = 99, tombs(61) }),
		"a hold 0":          changed(func(s *api.State) { s.Holds[0].ID = 0 }),
		"a hold too great":  changed(func(s *api.State) { s.NextHold = 6 }),
		"a hold's name":     changed(func(s *api.State) { s.Holds[1].Box = "Inbox" }),
		"a hold's end":      changed(func(s *api.State) { s.Holds[2].Set[0].To = top + 1 }),
		"a hold's ranges":   changed(func(s *api.State) { s.Holds[1].Set = make([]api.Range, 61) }),
		"17 holds":          changed(func(s *api.State) { s.NextHold, s.Holds = 99, holds(17) }),
		"NextValid 0":       changed(func(s *api.State) { s.NextValid = 0 }),
		"NextValid beyond":  changed(func(s *api.State) { s.NextValid = top + 2 }),
		"NextTomb beyond":   changed(func(s *api.State) { s.NextTomb = top + 2 }),
		"NextHold beyond":   changed(func(s *api.State) { s.NextHold = top + 2 }),
		"NextTomb 0":        changed(func(s *api.State) { s.Tombs, s.NextTomb = nil, 0 }),
		"NextHold 0":        changed(func(s *api.State) { s.Holds, s.NextHold = nil, 0 }),
		"a sub INBOX small": changed(func(s *api.State) { s.Subs[0] = "INBox" }),
	}
}

func names(n int) []string {
	l := []string{}
	for i := range n {
		l = append(l, fmt.Sprintf("n%02d", i))
	}
	return l
}

func boxes(n int) []api.Box {
	l := []api.Box{{Name: "INBOX", Valid: 1, Next: 1}}
	for i, name := range names(n - 1) {
		l = append(l, api.Box{Name: name, Valid: i + 2, Next: 1})
	}
	return l
}

func rules(n int) []api.Rule {
	l := []api.Rule{}
	for _, name := range names(n) {
		l = append(l, api.Rule{Box: name, Keep: 7})
	}
	return l
}

func tombs(n int) []api.Tomb {
	l := []api.Tomb{}
	for _, id := range upTo(n) {
		l = append(l, api.Tomb{ID: id, Box: "gone", At: id % 50, Msg: msg(id, fmt.Sprint("tomb ", id))})
	}
	return l
}

func holds(n int) []api.Hold {
	l := []api.Hold{}
	for _, id := range upTo(n) {
		l = append(l, api.Hold{ID: id, Box: "h", Set: ends(id, id+1)})
	}
	return l
}

// P17.1: the keys of a state, or of a chain, that may not be.
func TestLoadWrong(t *testing.T) {
	for name, s := range wrongStates() {
		if state.Right(s) {
			t.Fatal(name, "may be")
		}
		refuses(t, name, ownKeys(s, chain(3)))
	}
	head := chain(3).Head
	for name, val := range map[string]string{
		"Count beyond":    text(string(head[:])) + nums(1<<40+1),
		"Count below 0":   text(string(head[:])) + nums(-1),
		"Count above all": text(string(head[:])) + nums(1<<62+1),
		"no Count":        text(string(head[:])),
		"half a Count":    text(string(head[:])) + nums(3)[:4],
		"two Counts":      text(string(head[:])) + nums(3, 3),
		"31 bytes":        text(string(head[:31])) + nums(3),
		"33 bytes":        text(string(head[:])+"x") + nums(3),
		"no bytes":        text("") + nums(3),
		"4096 bytes":      text(strings.Repeat("x", 4096)) + nums(3),
		"no text":         string(head[:]) + nums(3),
		"nothing":         "",
	} {
		for _, s := range []api.State{newState(), some()} {
			l := ownKeys(s, chain(3))
			l[1].Val = val
			refuses(t, name, l)
		}
	}
}

// P17.1: no pair at all, and some that are few.
func TestLoadNothing(t *testing.T) {
	first := newKeys()
	for name, l := range map[string][]api.Pair{
		"nil": nil, "none": {}, "an empty one": {{}}, "empty ones": {{}, {}}, "the clock": first[:1], "without INBOX": first[:2], "without the clock": first[1:], "without the chain": {first[0], first[2]}, "INBOX": first[2:],
	} {
		refuses(t, name, l)
	}
	loads(t, "the first ones", first, newState(), api.Chain{})
}

// P17.1: very many keys end, too.
func TestLoadMany(t *testing.T) {
	l := newKeys()
	for i := range 3000 {
		l = append(l, pair(fmt.Sprintf("bn%04d", i), nums(i+2, 1)))
	}
	for i := range 3000 {
		l = append(l, pair(fmt.Sprintf("m%010d0000000001", i+2), nums(1, 0, 0)+text("")))
	}
	if _, _, e := keep.Load(l); e != api.ErrForm {
		t.Error(e)
	}
}
