package audit_test

import (
	"fmt"
	"slices"
	"strings"
	"testing"

	"escheat/api"
)

// What the tests hand in: events of each kind, all done one behind the other; bytes that are no record's.

func at(n int, e api.Event) api.Event {
	e.At = n
	return e
}

func create(box string) api.Event      { return api.Event{Kind: api.EvCreate, Box: box} }
func remove(box string) api.Event      { return api.Event{Kind: api.EvDelete, Box: box} }
func rename(box, to string) api.Event  { return api.Event{Kind: api.EvRename, Box: box, To: to} }
func subscribe(box string) api.Event   { return api.Event{Kind: api.EvSubscribe, Box: box} }
func forget(box string) api.Event      { return api.Event{Kind: api.EvForget, Box: box} }
func restore(n int) api.Event          { return api.Event{Kind: api.EvRestore, N: n} }
func keep(box string, n int) api.Event { return api.Event{Kind: api.EvRule, Box: box, N: n} }
func release(n int) api.Event          { return api.Event{Kind: api.EvRelease, N: n} }
func purge(ids ...int) api.Event       { return api.Event{Kind: api.EvPurge, IDs: ids} }

func bring(box, body string) api.Event {
	return api.Event{Kind: api.EvAppend, Box: box, Flags: api.Seen, Date: 9, Body: []byte(body)}
}

func store(box string, mode, flags int, ids ...int) api.Event {
	return api.Event{Kind: api.EvStore, Box: box, Mode: mode, Flags: flags, IDs: ids}
}

func copies(box, to string, ids ...int) api.Event {
	return api.Event{Kind: api.EvCopy, Box: box, To: to, IDs: ids}
}

func expunge(box string, ids ...int) api.Event {
	return api.Event{Kind: api.EvExpunge, Box: box, IDs: ids}
}

func hold(box string, set ...api.Range) api.Event {
	return api.Event{Kind: api.EvHold, Box: box, Set: set}
}

// times: one thing as often as asked; which time it is, it may ask.
func times(n int, one func(i int) api.Event) []api.Event {
	l := []api.Event{}
	for i := range n {
		l = append(l, one(i))
	}
	return l
}

func upTo(n int) []int {
	l := []int{}
	for i := range n {
		l = append(l, i+1)
	}
	return l
}

// story: events of each kind, all of which are done; there is some of all behind them.
func story() []api.Event {
	return []api.Event{
		at(1, create("a")), at(5, bring("a", "x\x00\xff")), bring("a", ""), at(3, bring("INBOX", strings.Repeat("long", 500))),
		at(6, store("a", 1, api.Flagged, 1, 2)), copies("a", "INBOX", 1, 2), create("b/c"), create("b/c/d"),
		at(9, rename("b/c", "d")), bring("d/d", "letter"), subscribe("d"), subscribe("gone"), forget("d"),
		keep("a", 60), keep("gone", 1<<40), at(20, expunge("a", 1, 2)), hold("a", api.Range{From: 1, To: 1}, api.Range{From: 7}), hold("z"),
		restore(1), release(1), at(80, purge(2)), at(90, remove("d/d")), at(1<<40, hold("INBOX", api.Range{From: 9})), expunge("INBOX", 2),
	}
}

// undone is events that are all done but the last one, which gives an error.
type undone struct {
	what   string
	events []api.Event
	want   api.Errno
}

// allUndone: each kind, and each error that it gives ahead of 2^32 events.
func allUndone() []undone {
	box, full := func(i int) api.Event { return create(fmt.Sprint("m", i)) }, func(int) api.Event { return bring("INBOX", "x") }
	// One message more than there may be tombs: 40 of INBOX, and 21 of a.
	many := slices.Concat([]api.Event{create("a")}, times(40, full), times(21, func(int) api.Event { return bring("a", "y") }))
	return []undone{
		{"a mailbox that is there", []api.Event{create("a"), create("a")}, api.ErrThere}, {"INBOX", []api.Event{create("INBOX")}, api.ErrThere}, {"the 17th mailbox", times(16, box), api.ErrFull},
		{"deleting none", []api.Event{remove("a")}, api.ErrNone}, {"deleting INBOX", []api.Event{remove("INBOX")}, api.ErrArg}, {"deleting a 61st tomb", append(slices.Clip(many), expunge("INBOX", upTo(40)...), remove("a")), api.ErrFull},
		{"renaming none", []api.Event{rename("a", "b")}, api.ErrNone}, {"renaming INBOX", []api.Event{rename("INBOX", "b")}, api.ErrArg}, {"renaming to itself", []api.Event{create("a"), rename("a", "a")}, api.ErrArg}, {"renaming to below", []api.Event{create("a"), rename("a", "a/b")}, api.ErrArg},
		{"renaming to too many parts", []api.Event{create("a"), create("a/b"), rename("a", "x/y/z/w")}, api.ErrForm}, {"renaming to one that is there", []api.Event{create("a"), create("b"), rename("a", "b")}, api.ErrThere},
		{"subscribed", []api.Event{subscribe("a"), subscribe("a")}, api.ErrThere}, {"the 17th name", times(17, func(i int) api.Event { return subscribe(fmt.Sprint("m", i)) }), api.ErrFull}, {"not subscribed", []api.Event{forget("a")}, api.ErrNone},
		{"a message for none", []api.Event{bring("a", "x")}, api.ErrNone}, {"the 41st message", times(41, full), api.ErrFull},
		{"flags in none", []api.Event{store("a", 0, 1, 1)}, api.ErrNone}, {"flags of none", []api.Event{bring("INBOX", "x"), store("INBOX", 0, 1, 1, 2)}, api.ErrNone},
		{"from none", []api.Event{copies("a", "INBOX", 1)}, api.ErrNone}, {"to none", []api.Event{bring("INBOX", "x"), copies("INBOX", "a", 1)}, api.ErrNone}, {"a copy of none", []api.Event{copies("INBOX", "INBOX", 1)}, api.ErrNone}, {"a copy too many", append(times(40, full), copies("INBOX", "INBOX", 1)), api.ErrFull},
		{"out of none", []api.Event{expunge("a", 1)}, api.ErrNone}, {"none out of one", []api.Event{expunge("INBOX", 1)}, api.ErrNone}, {"the 61st tomb", append(slices.Clip(many), expunge("INBOX", upTo(40)...), expunge("a", upTo(21)...)), api.ErrFull},
		{"no tomb", []api.Event{restore(1)}, api.ErrNone}, {"back to none", []api.Event{create("a"), bring("a", "x"), remove("a"), restore(1)}, api.ErrNone}, {"back to where no room is", append(times(40, full), expunge("INBOX", 7), bring("INBOX", "y"), restore(1)), api.ErrFull},
		{"the 17th rule", times(17, func(i int) api.Event { return keep(fmt.Sprint("m", i), 7) }), api.ErrFull}, {"the 17th hold", times(17, func(int) api.Event { return hold("a") }), api.ErrFull}, {"no hold", []api.Event{release(1)}, api.ErrNone},
		{"purging none", []api.Event{purge(1)}, api.ErrNone}, {"purging too early", []api.Event{keep("INBOX", 60), bring("INBOX", "x"), at(20, expunge("INBOX", 1)), at(79, purge(1))}, api.ErrHeld}, {"purging what is held", []api.Event{hold("INBOX"), bring("INBOX", "x"), expunge("INBOX", 1), at(99, purge(1))}, api.ErrHeld},
	}
}

// wrong is what is no record at a place of a list, and the error that it gives there.
type wrong struct {
	what string
	b    []byte
	want api.Errno
}

// wrongAt: each error of a record, made of the one that links at that place.
func wrongAt(t *testing.T, l [][]byte, place int) []wrong {
	t.Helper()
	b := l[place]
	head, laid := b[:32], b[40:]
	all := []wrong{
		{"nothing", nil, api.ErrShort}, {"no bytes", []byte{}, api.ErrShort}, {"half a Head", head[:16], api.ErrShort}, {"a Head alone", head, api.ErrShort},
		{"half a number", b[:36], api.ErrShort}, {"no event", b[:40], api.ErrShort}, {"an event cut", b[:len(b)-1], api.ErrShort},
		{"number 0", joined(head, nums(0), laid), api.ErrForm}, {"a number too great", joined(head, nums(1<<40+1), laid), api.ErrForm},
		{"an event of another kind", raw(l[:place], nums(15, 7, 3)), api.ErrForm}, {"an event that may not be", raw(l[:place], joined(nums(1, 7), text("inbox"))), api.ErrForm}, {"a byte more", joined(b, []byte{0}), api.ErrForm},
		{"a text too long", raw(l[:place], joined(nums(1, 7), text(strings.Repeat("a", 4097)))), api.ErrLong}, {"too many IDs", raw(l[:place], joined(nums(14, 7, 61), nums(upTo(61)...))), api.ErrLong},
		{"the number ahead", joined(head, nums(place), laid), api.ErrChain}, {"the number behind", joined(head, nums(place+2), laid), api.ErrChain}, {"the greatest number", joined(head, nums(1<<40), laid), api.ErrChain},
	}
	if place == 0 {
		all[14].want = api.ErrForm // 0 again
	}
	for _, i := range []int{0, 13, 31} {
		other := slices.Clone(b)
		other[i] ^= 1
		all = append(all, wrong{fmt.Sprint("byte ", i, " of the Head"), other, api.ErrChain})
	}
	return all
}
