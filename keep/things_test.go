package keep_test

import (
	"fmt"
	"math/rand"
	"slices"
	"strings"
	"testing"

	"escheat/api"
	"escheat/kv"
	"escheat/record"
	"escheat/state"
)

// What the tests hand in: events of each kind, states that have some of all, disks, and archives of any state.

func at(n int, e api.Event) api.Event {
	e.At = n
	return e
}

func create(box string) api.Event     { return api.Event{Kind: api.EvCreate, Box: box} }
func remove(box string) api.Event     { return api.Event{Kind: api.EvDelete, Box: box} }
func rename(box, to string) api.Event { return api.Event{Kind: api.EvRename, Box: box, To: to} }
func subscribe(box string) api.Event  { return api.Event{Kind: api.EvSubscribe, Box: box} }
func forget(box string) api.Event     { return api.Event{Kind: api.EvForget, Box: box} }
func restore(n int) api.Event         { return api.Event{Kind: api.EvRestore, N: n} }
func lasts(box string, n int) api.Event {
	return api.Event{Kind: api.EvRule, Box: box, N: n}
}
func release(n int) api.Event    { return api.Event{Kind: api.EvRelease, N: n} }
func purge(ids ...int) api.Event { return api.Event{Kind: api.EvPurge, IDs: ids} }

func bring(box, body string) api.Event {
	return api.Event{Kind: api.EvAppend, Box: box, Flags: api.Seen, Date: 9, Body: []byte(body)}
}

func store(box string, mode, flags int, ids ...int) api.Event {
	return api.Event{Kind: api.EvStore, Box: box, Mode: mode, Flags: flags, IDs: ids}
}

func copies(box, to string, ids ...int) api.Event {
	return api.Event{Kind: api.EvCopy, Box: box, To: to, IDs: ids}
}

func expunge(box string, ids ...int) api.Event {
	return api.Event{Kind: api.EvExpunge, Box: box, IDs: ids}
}

func hold(box string, nums ...int) api.Event {
	return api.Event{Kind: api.EvHold, Box: box, Set: ends(nums...)}
}

// ends: ranges from the one to the other.
func ends(nums ...int) []api.Range {
	var l []api.Range
	for pair := range slices.Chunk(nums, 2) {
		l = append(l, api.Range{From: pair[0], To: pair[1]})
	}
	return l
}

// upTo: the numbers from 1 on.
func upTo(n int) []int {
	l := []int{}
	for i := range n {
		l = append(l, i+1)
	}
	return l
}

// step is an event with the keys that it writes: behind + those that are put, behind - those that go.
type step struct {
	e    api.Event
	keys string
}

// story: events of each kind, all of which are done from the first state on.
func story() []step {
	return []step{
		{at(1, create("a")), "+! +# +ba +r0000000001"},
		{at(5, bring("a", "x\x00\xff")), "+! +# +ba +m00000000020000000001 +r0000000002"},
		{bring("a", ""), "+# +ba +m00000000020000000002 +r0000000003"},
		{at(3, bring("INBOX", strings.Repeat("long", 500))), "+# +bINBOX +m00000000010000000001 +r0000000004"},
		{at(6, store("a", 1, api.Flagged, 1, 2)), "+! +# +m00000000020000000001 +m00000000020000000002 +r0000000005"},
		{store("a", 1, api.Flagged, 1, 2), "+# +r0000000006"},
		{copies("a", "INBOX", 1, 2), "+# +bINBOX +m00000000010000000002 +m00000000010000000003 +r0000000007"},
		{create("b/c"), "+! +# +bb/c +r0000000008"},
		{create("b/c/d"), "+! +# +bb/c/d +r0000000009"},
		{at(9, rename("b/c", "d")), "-bb/c -bb/c/d +! +# +bd +bd/d +r0000000010"},
		{bring("d/d", "letter"), "+# +bd/d +m00000000040000000001 +r0000000011"},
		{rename("d/d", "e"), "-bd/d +# +be +r0000000012"},
		{subscribe("d"), "+# +r0000000013 +sd"},
		{subscribe("gone"), "+# +r0000000014 +sgone"},
		{forget("d"), "-sd +# +r0000000015"},
		{lasts("a", 60), "+# +r0000000016 +ua"},
		{lasts("a", 60), "+# +r0000000017"},
		{lasts("a", 61), "+# +r0000000018 +ua"},
		{lasts("gone", endTime), "+# +r0000000019 +ugone"},
		{lasts("gone", 0), "-ugone +# +r0000000020"},
		{at(20, expunge("a", 1, 2)), "-m00000000020000000001 -m00000000020000000002 +! +# +r0000000021 +t0000000001 +t0000000002"},
		{hold("a", 1, 1, 7, 0), "+! +# +h0000000001 +r0000000022"},
		{hold("z"), "+! +# +h0000000002 +r0000000023"},
		{restore(1), "-t0000000001 +# +ba +m00000000020000000003 +r0000000024"},
		{release(1), "-h0000000001 +# +r0000000025"},
		{at(81, purge(2)), "-t0000000002 +! +# +r0000000026"},
		{at(90, remove("e")), "-be -m00000000040000000001 +! +# +r0000000027 +t0000000003"},
		{remove("d"), "-bd +# +r0000000028"},
		{at(endTime, hold("INBOX", 9, 0)), "+! +# +h0000000003 +r0000000029"},
		{expunge("INBOX", 2), "-m00000000010000000002 +! +# +r0000000030 +t0000000004"},
	}
}

func msg(uid int, body string) api.Msg {
	return api.Msg{UID: uid, Flags: uid % 32, Date: 1000 + uid, Body: []byte(body)}
}

// msgs: of these numbers, each of another body.
func msgs(nums ...int) []api.Msg {
	l := []api.Msg{}
	for _, n := range nums {
		l = append(l, msg(n, fmt.Sprint("body ", n)))
	}
	return l
}

// some: a state that has some of all; its mailboxes' Valids don't rise as their names do.
func some() api.State {
	return api.State{
		Clock: 100,
		Boxes: []api.Box{
			{Name: "!", Valid: 10, Next: 1},
			{Name: "INBOX", Valid: 1, Next: 5, Msgs: msgs(1, 3)},
			{Name: "a", Valid: 5, Next: 30, Msgs: msgs(2, 9, 10, 25)},
			{Name: "a/b", Valid: 2, Next: 2, Msgs: msgs(1)},
			{Name: "ab", Valid: 3, Next: 4, Msgs: []api.Msg{{UID: 3, Body: []byte(strings.Repeat("\x00\xffz ", 500))}}},
			{Name: "b", Valid: 9, Next: 1},
			{Name: "~", Valid: 4, Next: 9, Msgs: []api.Msg{{UID: 8, Flags: 31, Date: endTime}}},
		},
		Subs:  []string{"a", "gone", "r0000000001"},
		Rules: []api.Rule{{Box: "a", Keep: 60}, {Box: "gone", Keep: 1}, {Box: "x", Keep: endTime}},
		Tombs: []api.Tomb{
			{ID: 3, Box: "a", At: 50, Msg: msg(1, "three")},
			{ID: 4, Box: "gone", At: 96, Msg: msg(7, "four")},
			{ID: 7, Box: "INBOX", At: 100, Msg: msg(2, "")},
			{ID: 10, Box: "ab", At: 0, Msg: msg(top, "ten")},
		},
		Holds: []api.Hold{
			{ID: 2, Box: "ab", Set: ends(1, 1, 5, 0)},
			{ID: 5, Box: "b"},
			{ID: 6, Box: "a", Set: ends(top, 7)},
		},
		NextValid: 11,
		NextTomb:  12,
		NextHold:  7,
	}
}

// changed: such a state, changed.
func changed(change func(*api.State)) api.State {
	s := some()
	change(&s)
	return s
}

// edges: a state whose numbers are as great, and whose lists are as long as they may be, but for its messages.
func edges() api.State {
	s := api.State{Clock: endTime, NextValid: top + 1, NextTomb: top + 1, NextHold: top + 1}
	for i := range 16 {
		name := fmt.Sprintf("n%02d/%s", i, strings.Repeat("x", 36))
		s.Subs = append(s.Subs, name)
		s.Rules = append(s.Rules, api.Rule{Box: name, Keep: endTime})
		set := []api.Range{}
		for j := range i * 4 {
			set = append(set, api.Range{From: top, To: top - j})
		}
		s.Holds = append(s.Holds, api.Hold{ID: top - 15 + i, Box: name, Set: set})
		if i == 0 {
			name = "INBOX"
		}
		s.Boxes = append(s.Boxes, api.Box{Name: name, Valid: top - i, Next: top + 1, Msgs: []api.Msg{{UID: top, Flags: 31, Date: endTime, Body: []byte{byte(i)}}}})
	}
	for i := range 60 {
		s.Tombs = append(s.Tombs, api.Tomb{ID: top - 59 + i, Box: "gone", At: endTime, Msg: api.Msg{UID: top, Flags: 31, Date: endTime, Body: []byte("tomb")}})
	}
	return s
}

// greatest: a state of as many keys as there may be: more than a store has room for.
func greatest() api.State {
	s := edges()
	for i := range s.Boxes {
		s.Boxes[i].Msgs = nil
		for j := range 40 {
			s.Boxes[i].Msgs = append(s.Boxes[i].Msgs, msg(top-39+j, fmt.Sprint(i, " ", j)))
		}
	}
	return s
}

// states: those that may be, by what they are.
func states() map[string]api.State {
	return map[string]api.State{
		"the first one": newState(),
		"some of all":   some(),
		"edges":         edges(),
		"greatest":      greatest(),
		"INBOX below":   changed(func(s *api.State) { s.Boxes[0].Name = "INBOX"; s.Boxes[1].Name = "INBOX/INBOX" }),
		"no NextValid":  changed(func(s *api.State) { s.NextValid = top + 1 }),
		"a hold of 60":  changed(func(s *api.State) { s.Holds[1].Set = slices.Repeat(ends(0, top), 60) }),
		"nothing else":  {Boxes: []api.Box{{Name: "INBOX", Valid: top, Next: top + 1}}, NextValid: top + 1, NextTomb: 1, NextHold: 1},
	}
}

// chain: one of so many records; its Head has all sorts of bytes.
func chain(count int) api.Chain {
	c := api.Chain{Count: count}
	for i := range c.Head {
		c.Head[i] = byte(i*37 + count)
	}
	return c
}

func chains() []api.Chain {
	return []api.Chain{{}, chain(0), chain(1), chain(255), chain(256), chain(9_999_999_999), chain(10_000_000_000), chain(1<<40 - 1), chain(1 << 40)}
}

// fresh: a disk of so many sectors without a log, none of them all 0, and nothing loose.
func fresh(n int) api.Disk {
	d := api.Disk{Fuse: -1, Sectors: make([][api.Sector]byte, n)}
	for i := range d.Sectors {
		for j := range d.Sectors[i] {
			d.Sectors[i][j] = byte(i + 7*j + 1)
		}
	}
	return d
}

// littered: one with loose writes, too.
func littered(n int) api.Disk {
	d := fresh(n)
	for i := range min(n, 5) {
		d.Loose = append(d.Loose, api.Write{At: n - 1 - i, Data: [api.Sector]byte{byte(i), 77}})
	}
	return d
}

func fallen(d api.Disk) api.Disk {
	d.Down = true
	return d
}

func armed(d api.Disk, fuse int) api.Disk {
	d.Fuse = fuse
	return d
}

// stored: a disk of so many sectors with a store of these pairs.
func stored(t testing.TB, n int, l []api.Pair) (api.Disk, api.Store) {
	t.Helper()
	d, s, e := kv.Format(fresh(n))
	// The values are at most some 2100 bytes long, so that two of them have room in a transaction.
	for c := range slices.Chunk(puts(l), 2) {
		if e == api.OK {
			d, s, e = kv.Commit(d, s, c)
		}
	}
	if e != api.OK || !slices.Equal(s.Pairs, l) {
		t.Fatal(len(l), "pairs aren't stored: error", int(e))
	}
	return d, s
}

// archive: one of a state and a chain, and of any records, on a disk of so many sectors.
func archive(t testing.TB, n int, s api.State, c api.Chain, records ...api.Pair) (api.Disk, api.Archive) {
	t.Helper()
	l := append(ownKeys(s, c), records...)
	slices.SortFunc(l, func(a, b api.Pair) int { return strings.Compare(a.Key, b.Key) })
	d, store := stored(t, n, l)
	return d, api.Archive{Store: store, State: s, Chain: c}
}

// records: so many pairs of records, from 1 on, of any bytes.
func records(n int) []api.Pair {
	l := []api.Pair{}
	for _, i := range upTo(n) {
		l = append(l, pair(recordKey(i), fmt.Sprint("record ", i)))
	}
	return l
}

// played: the archive behind the first so many steps of the story, on a disk of so many sectors.
func played(t testing.TB, n, steps int) (api.Disk, api.Archive) {
	t.Helper()
	x := format(fresh(n))
	for _, s := range story()[:steps] {
		if x.Err == 0 {
			x = commit(x.Disk, x.Archive, s.e)
		}
	}
	if x.Err != 0 {
		t.Fatal(steps, "steps: error", x.Err)
	}
	return x.Disk, x.Archive
}

// replayed: the state behind events from the first one on, and their records.
func replayed(t testing.TB, events []api.Event) (api.State, api.Chain, [][]byte) {
	t.Helper()
	s, c, l := newState(), api.Chain{}, [][]byte{}
	for i, e := range events {
		after, f := state.Apply(s, e)
		b, next, g := record.Next(c, e)
		if f != api.OK || g != api.OK {
			t.Fatal(i, int(f), int(g))
		}
		s, c, l = after, next, append(l, b)
	}
	return s, c, l
}

func anyOf[T any](r *rand.Rand, l []T) T { return l[r.Intn(len(l))] }

// someIDs: rising ones of those that there are, and once in a while one more.
func someIDs(r *rand.Rand, there []int) []int {
	ids := []int{}
	for _, id := range there {
		if r.Intn(2) == 0 {
			ids = append(ids, id)
		}
	}
	if len(ids) == 0 || r.Intn(8) == 0 {
		ids = append(ids, 1+r.Intn(40))
	}
	slices.Sort(ids)
	return slices.Compact(ids)
}

// someEvent is mostly of what is there; its body is of at most so many bytes.
func someEvent(r *rand.Rand, s api.State, size int) api.Event {
	places := []string{"INBOX", "a", "a/b", "a/b/c", "ab", "b", "INBOX/x", "z"}
	b := anyOf(r, s.Boxes)
	box, to := anyOf(r, append([]string{b.Name}, places...)), anyOf(r, places)
	uids, tombs := []int{}, []int{}
	for _, m := range b.Msgs {
		uids = append(uids, m.UID)
	}
	for _, x := range s.Tombs {
		tombs = append(tombs, x.ID)
	}
	e := api.Event{}
	switch r.Intn(16) {
	case 0:
		e = create(to)
	case 1:
		e = remove(box)
	case 2:
		e = rename(box, to)
	case 3:
		e = subscribe(to)
	case 4:
		e = forget(to)
	case 5, 6, 7:
		e = bring(b.Name, strings.Repeat("octet\x00\xff", 300)[:r.Intn(size+1)])
	case 8:
		e = store(b.Name, r.Intn(3), r.Intn(32), someIDs(r, uids)...)
	case 9:
		e = copies(b.Name, to, someIDs(r, uids)...)
	case 10:
		e = expunge(b.Name, someIDs(r, uids)...)
	case 11:
		e = restore(anyOf(r, append(tombs, 1)))
	case 12:
		e = lasts(to, r.Intn(3)*r.Intn(20))
	case 13:
		e = hold(to, r.Intn(9), r.Intn(9))
	case 14:
		e = release(1 + r.Intn(s.NextHold))
	default:
		e = purge(someIDs(r, tombs)...)
	}
	return at(max(0, s.Clock+r.Intn(12)-3), e)
}
