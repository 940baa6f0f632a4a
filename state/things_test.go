package state_test

import (
	"fmt"
	"slices"
	"strings"

	"escheat/api"
)

// What the tests hand in: messages, lists of them, events of each kind, and a state that has some of all.

func msg(uid int, body string) api.Msg {
	return api.Msg{UID: uid, Flags: uid % 32, Date: 1000 + uid, Body: []byte(body)}
}

// msgs: of these numbers, each of another body.
func msgs(nums ...int) []api.Msg {
	l := []api.Msg{}
	for _, n := range nums {
		l = append(l, msg(n, fmt.Sprint("body ", n)))
	}
	return l
}

// upTo: the numbers from 1 on.
func upTo(n int) []int {
	l := []int{}
	for i := range n {
		l = append(l, i+1)
	}
	return l
}

// ends: ranges from the one to the other.
func ends(nums ...int) []api.Range {
	l := []api.Range{}
	for pair := range slices.Chunk(nums, 2) {
		l = append(l, api.Range{From: pair[0], To: pair[1]})
	}
	return l
}

func at(n int, e api.Event) api.Event {
	e.At = n
	return e
}

func create(box string) api.Event      { return api.Event{Kind: api.EvCreate, Box: box} }
func remove(box string) api.Event      { return api.Event{Kind: api.EvDelete, Box: box} }
func rename(box, to string) api.Event  { return api.Event{Kind: api.EvRename, Box: box, To: to} }
func subscribe(box string) api.Event   { return api.Event{Kind: api.EvSubscribe, Box: box} }
func forget(box string) api.Event      { return api.Event{Kind: api.EvForget, Box: box} }
func restore(n int) api.Event          { return api.Event{Kind: api.EvRestore, N: n} }
func keep(box string, n int) api.Event { return api.Event{Kind: api.EvRule, Box: box, N: n} }
func release(n int) api.Event          { return api.Event{Kind: api.EvRelease, N: n} }
func purge(ids ...int) api.Event       { return api.Event{Kind: api.EvPurge, IDs: ids} }

func expunge(box string, ids ...int) api.Event {
	return api.Event{Kind: api.EvExpunge, Box: box, IDs: ids}
}

func hold(box string, nums ...int) api.Event {
	return api.Event{Kind: api.EvHold, Box: box, Set: ends(nums...)}
}

func bring(box string, flags, date int, body string) api.Event {
	return api.Event{Kind: api.EvAppend, Box: box, Flags: flags, Date: date, Body: []byte(body)}
}

func store(box string, mode, flags int, ids ...int) api.Event {
	return api.Event{Kind: api.EvStore, Box: box, Mode: mode, Flags: flags, IDs: ids}
}

func copies(box, to string, ids ...int) api.Event {
	return api.Event{Kind: api.EvCopy, Box: box, To: to, IDs: ids}
}

// first: the first state.
func first() api.State {
	return api.State{Boxes: []api.Box{{Name: "INBOX", Valid: 1, Next: 1}}, NextValid: 2, NextTomb: 1, NextHold: 1}
}

// some: a state that has some of all; its numbers have gaps, and its tombs, rules, holds and names are of mailboxes that are there, and of one that isn't.
func some() api.State {
	return api.State{
		Clock: 100,
		Boxes: []api.Box{
			{Name: "INBOX", Valid: 1, Next: 5, Msgs: msgs(1, 3)},
			{Name: "a", Valid: 5, Next: 9, Msgs: msgs(2, 5, 8)},
			{Name: "a/b", Valid: 2, Next: 2, Msgs: msgs(1)},
			{Name: "a/b/c", Valid: 6, Next: 1},
			{Name: "ab", Valid: 3, Next: 4, Msgs: msgs(3)},
			{Name: "b", Valid: 9, Next: 1},
		},
		Subs:  []string{"a", "gone"},
		Rules: []api.Rule{{Box: "a", Keep: 60}, {Box: "gone", Keep: 5}},
		Tombs: []api.Tomb{
			{ID: 3, Box: "a", At: 50, Msg: msg(1, "three")},
			{ID: 4, Box: "gone", At: 96, Msg: msg(7, "four")},
			{ID: 7, Box: "INBOX", At: 100, Msg: msg(2, "seven")},
			{ID: 8, Box: "ab", At: 0, Msg: msg(1, "")},
		},
		Holds:     []api.Hold{{ID: 2, Box: "ab", Set: ends(1, 1, 5, 0)}, {ID: 5, Box: "b"}},
		NextValid: 11,
		NextTomb:  10,
		NextHold:  6,
	}
}

// with: such a state, changed.
func with(change func(*api.State)) api.State {
	s := some()
	change(&s)
	return s
}

// boxesOf: INBOX, and as many others as make n.
func boxesOf(n int) []api.Box {
	l := []api.Box{{Name: "INBOX", Valid: 1, Next: 1}}
	for i := 1; i < n; i++ {
		l = append(l, api.Box{Name: fmt.Sprintf("m%02d", i), Valid: i + 1, Next: 1})
	}
	return l
}

// namesOf: n rising names.
func namesOf(n int) []string {
	l := []string{}
	for i := range n {
		l = append(l, fmt.Sprintf("n%02d", i))
	}
	return l
}

func rulesOf(n int) []api.Rule {
	l := []api.Rule{}
	for _, s := range namesOf(n) {
		l = append(l, api.Rule{Box: s, Keep: 7})
	}
	return l
}

// tombsOf: n of them, of a mailbox, with the IDs from 1 on.
func tombsOf(n int, box string) []api.Tomb {
	l := []api.Tomb{}
	for _, id := range upTo(n) {
		l = append(l, api.Tomb{ID: id, Box: box, At: id % 50, Msg: msg(id, fmt.Sprint("tomb ", id))})
	}
	return l
}

func holdsOf(n int) []api.Hold {
	l := []api.Hold{}
	for _, id := range upTo(n) {
		l = append(l, api.Hold{ID: id, Box: "h", Set: ends(id, id+1)})
	}
	return l
}

// wrongNames: none of them is right.
var wrongNames = []string{"", "inbox", "Inbox/a", "a b", "a*", "a%", "a(", "a)", "a{", "a\"", "a\\", "a/", "/a", "a//b", "a/b/c/d/e", "\x7f", "\u00e4", "a\x00", strings.Repeat("n", 41)}

// edgeNames: right ones, by their bytes.
var edgeNames = []string{"!", "INBOX/x", "a}", "a/b/c/d", "n", strings.Repeat("n", 40), "~"}
