package keep_test

import (
	"fmt"
	"slices"
	"strings"
	"testing"

	"escheat/api"
	"escheat/keep"
	"escheat/state"
)

// sameKeys: a failing test tells the first pair that is another one.
func sameKeys(t *testing.T, what string, got, want []api.Pair) {
	t.Helper()
	for i := range max(len(got), len(want)) {
		if i >= len(got) || i >= len(want) || got[i] != want[i] {
			t.Fatalf("%s: pair %d: %q, not %q", what, i, got[min(i, len(got)):min(i+1, len(got))], want[min(i, len(want)):min(i+1, len(want))])
		}
	}
}

// P17.1: the keys of the first state and chain, byte by byte.
func TestKeysFirst(t *testing.T) {
	sameKeys(t, "the first ones", keep.Keys(state.New(), api.Chain{}), []api.Pair{
		{Key: "!", Val: "\x00\x00\x00\x00\x00\x00\x00\x00" + "\x00\x00\x00\x00\x00\x00\x00\x02" + "\x00\x00\x00\x00\x00\x00\x00\x01" + "\x00\x00\x00\x00\x00\x00\x00\x01"},
		{Key: "#", Val: "\x00\x00\x00\x20" + strings.Repeat("\x00", 32) + "\x00\x00\x00\x00\x00\x00\x00\x00"},
		{Key: "bINBOX", Val: "\x00\x00\x00\x00\x00\x00\x00\x01" + "\x00\x00\x00\x00\x00\x00\x00\x01"},
	})
	sameKeys(t, "as the tests have them", newKeys(), keep.Keys(newState(), api.Chain{}))
}

// P17.1: the keys of a state that has some of all, each with its value.
func TestKeysSome(t *testing.T) {
	c := chain(77)
	sameKeys(t, "some", keep.Keys(some(), c), []api.Pair{
		pair("!", nums(100, 11, 12, 7)),
		pair("#", "\x00\x00\x00\x20"+string(c.Head[:])+nums(77)),
		pair("b!", nums(10, 1)),
		pair("bINBOX", nums(1, 5)),
		pair("ba", nums(5, 30)),
		pair("ba/b", nums(2, 2)),
		pair("bab", nums(3, 4)),
		pair("bb", nums(9, 1)),
		pair("b~", nums(4, 9)),
		pair("h0000000002", "\x00\x00\x00\x02ab"+nums(2, 1, 1, 5, 0)),
		pair("h0000000005", "\x00\x00\x00\x01b"+nums(0)),
		pair("h0000000006", "\x00\x00\x00\x01a"+nums(1, top, 7)),
		pair("m00000000010000000001", nums(1, 1, 1001)+"\x00\x00\x00\x06body 1"),
		pair("m00000000010000000003", nums(3, 3, 1003)+"\x00\x00\x00\x06body 3"),
		pair("m00000000020000000001", nums(1, 1, 1001)+"\x00\x00\x00\x06body 1"),
		pair("m00000000030000000003", nums(3, 0, 0)+"\x00\x00\x07\xd0"+strings.Repeat("\x00\xffz ", 500)),
		pair("m00000000040000000008", nums(8, 31, endTime)+"\x00\x00\x00\x00"),
		pair("m00000000050000000002", nums(2, 2, 1002)+"\x00\x00\x00\x06body 2"),
		pair("m00000000050000000009", nums(9, 9, 1009)+"\x00\x00\x00\x06body 9"),
		pair("m00000000050000000010", nums(10, 10, 1010)+"\x00\x00\x00\x07body 10"),
		pair("m00000000050000000025", nums(25, 25, 1025)+"\x00\x00\x00\x07body 25"),
		pair("sa", ""),
		pair("sgone", ""),
		pair("sr0000000001", ""),
		pair("t0000000003", nums(50)+"\x00\x00\x00\x01a"+nums(1, 1, 1001)+"\x00\x00\x00\x05three"),
		pair("t0000000004", nums(96)+"\x00\x00\x00\x04gone"+nums(7, 7, 1007)+"\x00\x00\x00\x04four"),
		pair("t0000000007", nums(100)+"\x00\x00\x00\x05INBOX"+nums(2, 2, 1002)+"\x00\x00\x00\x00"),
		pair("t0000000010", nums(0)+"\x00\x00\x00\x02ab"+nums(top, 31, 1000+top)+"\x00\x00\x00\x03ten"),
		pair("ua", nums(60)),
		pair("ugone", nums(1)),
		pair("ux", nums(endTime)),
	})
}

// P17.1: the keys of each state and chain that may be: just the model's, rising.
func TestKeys(t *testing.T) {
	for name, s := range states() {
		if !state.Right(s) {
			t.Fatal(name, "may not be")
		}
		for _, c := range chains() {
			l := likeKeys(t, name, s, c)
			for i := 1; i < len(l); i++ {
				if l[i].Key <= l[i-1].Key {
					t.Errorf("%s: %q behind %q", name, l[i].Key, l[i-1].Key)
				}
			}
			if slices.ContainsFunc(l, isRecord) {
				t.Errorf("%s: a record among the keys", name)
			}
		}
	}
	if n := len(keep.Keys(greatest(), chain(9))); n != 2+16+640+16+16+60+16 {
		t.Error(n, "keys of the greatest state")
	}
}

// P17.1: numbers in keys have ten digits, whatever they are.
func TestKeysDigits(t *testing.T) {
	for _, n := range []int{1, 9, 10, 99, 12345, 999_999_999, 1_000_000_000, 2_147_483_648, top - 1, top} {
		s := newState()
		s.NextValid, s.NextTomb, s.NextHold = top+1, top+1, top+1
		s.Boxes[0].Valid, s.Boxes[0].Next = n, top+1
		s.Boxes[0].Msgs = []api.Msg{{UID: n}}
		s.Tombs = []api.Tomb{{ID: n, Box: "a", Msg: api.Msg{UID: n}}}
		s.Holds = []api.Hold{{ID: n, Box: "a"}}
		l := likeKeys(t, fmt.Sprint(n), s, api.Chain{})
		digits := fmt.Sprint(n)
		for len(digits) < 10 {
			digits = "0" + digits
		}
		keys := ""
		for _, p := range l {
			keys += p.Key + " "
		}
		if keys != "! # bINBOX h"+digits+" m"+digits+digits+" t"+digits+" " {
			t.Error(n, keys)
		}
		if x := likeLoad(t, fmt.Sprint(n), l); x.Err != 0 {
			t.Error(n, x.Err)
		}
	}
}

// P17.1: of messages the body as it is: none, one byte of each, and as many as there may be.
func TestKeysBodies(t *testing.T) {
	bodies := [][]byte{nil, {}, []byte(strings.Repeat("\xff", 2000)), []byte("two\r\nlines")}
	for i := range 256 {
		bodies = append(bodies, []byte{byte(i)})
	}
	for _, body := range bodies {
		m := api.Msg{UID: 7, Flags: 3, Date: 5, Body: body}
		s := newState()
		s.NextTomb, s.Boxes[0].Next = 2, 8
		s.Boxes[0].Msgs = []api.Msg{m}
		s.Tombs = []api.Tomb{{ID: 1, Box: "b", Msg: m}}
		l := likeKeys(t, fmt.Sprintf("%.5q", body), s, chain(3))
		laid := nums(7, 3, 5) + text(string(body))
		if len(l) != 5 || l[3] != pair("m00000000010000000007", laid) || l[4] != pair("t0000000001", nums(0)+text("b")+laid) {
			t.Errorf("%.5q: %s", body, short(told(l)))
		}
		if x := likeLoad(t, fmt.Sprintf("%.5q", body), l); x.Err != 0 || !state.Same(x.State, s) {
			t.Errorf("%.5q: error %d, %s", body, x.Err, short(told(x.State)))
		}
	}
}

// P17.1: names rise in keys as they rise by themselves, whatever bytes they have.
func TestKeysNames(t *testing.T) {
	names := []string{"!", "!!", "#", "-", "0", "A", "INBOX", "INBOX!", "INBOX-a", "INBOX/a", "INBOX0", "a", "a!", "a/b", "a0", "r0000000001", "x", "z}", "~", "~~"}
	slices.Sort(names)
	names = slices.Compact(names)
	for from := range len(names) {
		s := newState()
		s.Boxes, s.NextValid = nil, 99
		for i, name := range names {
			// At most 16, INBOX always among them; their Valids fall.
			if name == "INBOX" || (i+from)%2 == 0 {
				s.Boxes = append(s.Boxes, api.Box{Name: name, Valid: 98 - i, Next: 3, Msgs: msgs(1, 2)})
				s.Subs = append(s.Subs, name)
				s.Rules = append(s.Rules, api.Rule{Box: name, Keep: i + 1})
			}
		}
		what := fmt.Sprint("names from ", from)
		if !state.Right(s) {
			t.Fatal(what, "may not be")
		}
		l := likeKeys(t, what, s, api.Chain{})
		if x := likeLoad(t, what, l); x.Err != 0 || !state.Same(x.State, s) {
			t.Errorf("%s: error %d", what, x.Err)
		}
	}
}

// P17.1: Keys ends, and doesn't panic, of any state and chain.
func TestKeysAny(t *testing.T) {
	odd := api.State{
		Clock: -1, NextValid: -1 << 63, NextTomb: 1<<63 - 1, NextHold: 0,
		Boxes: []api.Box{{}, {}, {Name: strings.Repeat("long", 3000), Valid: -1 << 63, Next: -5, Msgs: []api.Msg{{}, {UID: -1 << 63, Flags: -1, Date: -1, Body: make([]byte, 9000)}}}},
		Subs:  []string{"", "", "\xff"},
		Rules: []api.Rule{{}, {Keep: -1}},
		Tombs: []api.Tomb{{}, {ID: -7, At: -7}, {ID: 1<<63 - 1}},
		Holds: []api.Hold{{}, {ID: -1, Set: make([]api.Range, 99)}},
	}
	for _, c := range []api.Chain{{}, {Count: -1}, {Count: 1<<63 - 1}, {Count: -1 << 63}} {
		for _, s := range []api.State{{}, odd} {
			x := lent(s)
			before := toldRoom(x)
			keep.Keys(x, c)
			if toldRoom(x) != before {
				t.Error("a state was changed")
			}
			if keep.Right(fresh(100), api.Archive{State: x, Chain: c}) {
				t.Error("may be")
			}
		}
	}
}
