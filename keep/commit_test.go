package keep_test

import (
	"fmt"
	"math/rand"
	"slices"
	"strings"
	"testing"

	"escheat/api"
	"escheat/audit"
	"escheat/keep"
	"escheat/kv"
	"escheat/record"
	"escheat/sector"
	"escheat/state"
	"escheat/wal"
)

// P17.1: the chapter's example: an event of a mailbox that isn't there: ErrNone, and nothing is written.
func TestExample(t *testing.T) {
	x := format(fresh(100))
	for _, e := range []api.Event{remove("a"), rename("a", "b"), bring("a", "x"), store("a", 0, 1, 1), copies("a", "INBOX", 1), expunge("a", 1)} {
		stays(t, fmt.Sprint("kind ", e.Kind), x.Disk, x.Archive, likeCommit(t, fmt.Sprint("kind ", e.Kind), x.Disk, x.Archive, e), api.ErrNone)
	}
}

// written: the keys of the transaction that a log was given last; behind + those that are put, behind - those that go.
func written(t *testing.T, d api.Disk) string {
	t.Helper()
	_, _, list, e := wal.Open(d)
	if e != api.OK {
		t.Fatal(int(e))
	}
	l, e := kv.Decode(list[len(list)-1])
	if e != api.OK {
		t.Fatal(int(e))
	}
	keys := []string{}
	for _, c := range l {
		if c.Gone {
			keys = append(keys, "-"+c.Key)
		} else {
			keys = append(keys, "+"+c.Key)
		}
	}
	return strings.Join(keys, " ")
}

// P17.1: many events one after another, each kind of event among them: just those keys are written that go, that are new, or that have another value; the state, the chain and the records are layer 14's and 15's.
func TestCommit(t *testing.T) {
	x := format(littered(2000))
	events := []api.Event{}
	kinds := map[int]bool{}
	for i, step := range story() {
		what := fmt.Sprint("step ", i, ", kind ", step.e.Kind)
		events = append(events, step.e)
		kinds[step.e.Kind] = true
		x = likeCommit(t, what, x.Disk, x.Archive, step.e)
		s, c, l := replayed(t, events)
		if x.Err != 0 || !state.Same(x.Archive.State, s) || x.Archive.Chain != c || !likeRight(t, what, x.Disk, x.Archive) {
			t.Fatalf("%s: error %d, %s", what, x.Err, short(told(x.Archive.State)))
		}
		if keys := written(t, x.Disk); keys != step.keys {
			t.Errorf("%s: written %s, not %s", what, keys, step.keys)
		}
		if got := likeRecords(t, what, x.Archive); told(got) != told(l) {
			t.Errorf("%s: other records", what)
		}
		y := likeOpen(t, what, x.Disk)
		if y.Err != 0 || !state.Same(y.Archive.State, s) || y.Archive.Chain != c || !slices.Equal(y.Archive.Store.Pairs, x.Archive.Store.Pairs) {
			t.Errorf("%s: opened: error %d", what, y.Err)
		}
	}
	if len(kinds) != 14 {
		t.Error(len(kinds), "kinds")
	}
}

// P17.1: names that are given up and taken again, values that stay as they were, and mailboxes that take another one's place: just the keys that hang on it are written.
func TestCommitSame(t *testing.T) {
	x := format(fresh(300))
	for _, c := range []step{
		{create("a"), "+! +# +ba +r0000000001"},
		{create("b"), "+! +# +bb +r0000000002"},
		{bring("a", "x"), "+# +ba +m00000000020000000001 +r0000000003"},
		{rename("a", "c"), "-ba +# +bc +r0000000004"},
		{rename("b", "a"), "-bb +# +ba +r0000000005"},
		{store("c", 0, api.Seen, 1), "+# +r0000000006"},
		{store("c", 0, api.Draft, 1), "+# +m00000000020000000001 +r0000000007"},
		{copies("c", "c", 1), "+# +bc +m00000000020000000002 +r0000000008"},
		{remove("a"), "-ba +# +r0000000009"},
		{create("a"), "+! +# +ba +r0000000010"},
		{rename("a", "a0"), "-ba +# +ba0 +r0000000011"},
		{create("a0/a0"), "+! +# +ba0/a0 +r0000000012"},
		{rename("a0/a0", "a"), "-ba0/a0 +# +ba +r0000000013"},
		{create("a/a"), "+! +# +ba/a +r0000000014"},
		{rename("a0", "a/a/a"), "-ba0 +# +ba/a/a +r0000000015"},
	} {
		x = likeCommit(t, c.keys, x.Disk, x.Archive, c.e)
		if x.Err != 0 {
			t.Fatal(c.keys, x.Err)
		}
		if keys := written(t, x.Disk); keys != c.keys {
			t.Errorf("written %s, not %s", keys, c.keys)
		}
	}
}

// P17.1: a record's key that is there is put where its value is another one, and not where it is the same; no other key that begins with r is touched.
func TestCommitRecordThere(t *testing.T) {
	e := subscribe("a")
	for _, count := range []int{0, 1, 2, 9_999_999_998, 9_999_999_999, 10_000_000_000, 1<<40 - 1} {
		b, c, _ := record.Next(chain(count), e)
		key := fmt.Sprintf("%013d", count+1)
		key = "r" + key[3:]
		others := []api.Pair{pair("r", "x"), pair("r0123456789", "y"), pair("rest", "")}
		for what, x := range map[string]struct {
			there api.Pair
			keys  string
		}{
			"there":              {pair(key, string(b)), "+# +sa"},
			"there with another": {pair(key, string(b)+"x"), "+# +" + key + " +sa"},
			"there with nothing": {pair(key, ""), "+# +" + key + " +sa"},
			"not there":          {pair("r00000", string(b)), "+# +" + key + " +sa"},
		} {
			d, a := archive(t, 300, newState(), chain(count), append(slices.Clone(others), x.there)...)
			what = fmt.Sprint(count, " ", what)
			got := likeCommit(t, what, d, a, e)
			if got.Err != 0 || got.Archive.Chain != c {
				t.Fatal(what, got.Err, got.Archive.Chain)
			}
			if keys := written(t, got.Disk); keys != x.keys {
				t.Errorf("%s: written %s, not %s", what, keys, x.keys)
			}
			for _, p := range others {
				if v, ok := kv.Get(got.Archive.Store, p.Key); !ok || v != p.Val {
					t.Errorf("%s: %s is gone, or another one", what, p.Key)
				}
			}
			if v, ok := kv.Get(got.Archive.Store, key); !ok || v != string(b) {
				t.Errorf("%s: no record", what)
			}
		}
	}
}

// notDone is an event that isn't done to a state, and its error.
type notDone struct {
	what string
	s    api.State
	e    api.Event
	want api.Errno
}

// allNotDone: each kind of event, and each error of Apply of a state that may be.
func allNotDone() []notDone {
	with := changed
	full := with(func(s *api.State) { s.Tombs, s.NextTomb = tombs(60), 61 })
	used := with(func(s *api.State) { s.NextValid, s.NextTomb, s.NextHold = top+1, top+1, top+1 })
	forty := with(func(s *api.State) { s.Boxes[1].Msgs, s.Boxes[1].Next = msgs(upTo(40)...), 41 })
	return []notDone{
		{"a mailbox that is there", some(), create("a"), api.ErrThere},
		{"the 17th mailbox", api.State{Boxes: boxes(16), NextValid: 17, NextTomb: 1, NextHold: 1}, create("z"), api.ErrFull},
		{"no Valid", used, create("z"), api.ErrUsed},
		{"deleting none", some(), remove("z"), api.ErrNone},
		{"deleting INBOX", some(), remove("INBOX"), api.ErrArg},
		{"deleting with all tombs", full, remove("a"), api.ErrFull},
		{"deleting without a number", used, remove("a"), api.ErrUsed},
		{"renaming none", some(), rename("z", "y"), api.ErrNone},
		{"renaming INBOX", some(), rename("INBOX", "y"), api.ErrArg},
		{"renaming to itself", some(), rename("a", "a"), api.ErrArg},
		{"renaming to below", some(), rename("a", "a/x"), api.ErrArg},
		{"renaming to a name too long", some(), rename("a", strings.Repeat("y", 40)), api.ErrForm},
		{"renaming to one that is there", some(), rename("a", "b"), api.ErrThere},
		{"subscribed", some(), subscribe("a"), api.ErrThere},
		{"the 17th sub", with(func(s *api.State) { s.Subs = names(16) }), subscribe("z"), api.ErrFull},
		{"not subscribed", some(), forget("z"), api.ErrNone},
		{"to none", some(), bring("z", "x"), api.ErrNone},
		{"no UID", with(func(s *api.State) { s.Boxes[1].Next = top + 1 }), bring("INBOX", "x"), api.ErrUsed},
		{"the 41st message", forty, bring("INBOX", "x"), api.ErrFull},
		{"flags in none", some(), store("z", 0, 1, 1), api.ErrNone},
		{"flags of none", some(), store("INBOX", 0, 1, 1, 2), api.ErrNone},
		{"copies from none", some(), copies("z", "a", 1), api.ErrNone},
		{"copies to none", some(), copies("INBOX", "z", 1), api.ErrNone},
		{"copies of none", some(), copies("INBOX", "a", 2), api.ErrNone},
		{"a copy too many", forty, copies("a", "INBOX", 2), api.ErrFull},
		{"a copy without UID", with(func(s *api.State) { s.Boxes[1].Next = top }), copies("a", "INBOX", 2, 9), api.ErrUsed},
		{"out of none", some(), expunge("z", 1), api.ErrNone},
		{"none out of one", some(), expunge("INBOX", 1, 2), api.ErrNone},
		{"out with all tombs", full, expunge("INBOX", 1), api.ErrFull},
		{"out without a number", used, expunge("INBOX", 1), api.ErrUsed},
		{"no tomb", some(), restore(5), api.ErrNone},
		{"back to none", some(), restore(4), api.ErrNone},
		{"back to where no room is", forty, restore(7), api.ErrFull},
		{"back without UID", with(func(s *api.State) { s.Boxes[1].Next = top + 1 }), restore(7), api.ErrUsed},
		{"the 17th rule", with(func(s *api.State) { s.Rules = rules(16) }), lasts("z", 1), api.ErrFull},
		{"the 17th hold", with(func(s *api.State) { s.Holds, s.NextHold = holds(16), 17 }), hold("z"), api.ErrFull},
		{"no hold number", used, hold("z"), api.ErrUsed},
		{"no hold", some(), release(1), api.ErrNone},
		{"purging none", some(), purge(4, 5), api.ErrNone},
		{"purging too early", some(), at(109, purge(3)), api.ErrHeld},
		{"purging what is held", some(), at(endTime, purge(4, 10)), api.ErrHeld},
	}
}

// wrongEvents: none of them may be.
func wrongEvents() []api.Event {
	extra := subscribe("z")
	extra.N = 1
	return []api.Event{
		{}, {Kind: 15}, {Kind: -1, Box: "z"}, create(""), create("inbox"), create(strings.Repeat("z", 41)), at(-1, create("z")), at(endTime+1, create("z")), extra,
		rename("a", ""), {Kind: api.EvAppend, Box: "a", Flags: 32}, {Kind: api.EvAppend, Box: "a", Date: -1}, bring("a", strings.Repeat("x", 2001)), store("a", 3, 1, 2), store("a", 0, 32, 2), store("a", 0, 1), copies("a", "b"), expunge("a", 0), expunge("a", 9, 2), expunge("a", 2, 2),
		restore(-1), lasts("a", endTime+1), hold("a", -1, 2), release(-1), purge(), purge(top + 1), purge(upTo(61)...),
	}
}

// P17.1: what is refused ahead of the disk is refused whatever it is: nothing is written, and nothing is another one.
func TestCommitRefused(t *testing.T) {
	met := map[api.Errno]bool{}
	for _, x := range allNotDone() {
		if !state.Right(x.s) {
			t.Fatal(x.what, "may not be")
		}
		met[x.want] = true
		// The chain that has 2^40 records comes behind Apply's error, the disk's fall too.
		for _, c := range []api.Chain{chain(2), chain(1 << 40)} {
			d, a := archive(t, 2000, x.s, c, records(2)...)
			stays(t, x.what, d, a, likeCommit(t, x.what, d, a, x.e), x.want)
			stays(t, x.what+", down", fallen(d), a, commit(fallen(d), a, x.e), x.want)
			stays(t, x.what+", about to fall", armed(d, 0), a, commit(armed(d, 0), a, x.e), x.want)
			// Its Clock doesn't go on either.
			if x.want != api.ErrHeld && x.e.At == 0 {
				stays(t, x.what+", later", d, a, likeCommit(t, x.what, d, a, at(500, x.e)), x.want)
			}
		}
	}
	for _, want := range []api.Errno{api.ErrArg, api.ErrForm, api.ErrNone, api.ErrThere, api.ErrFull, api.ErrHeld, api.ErrUsed} {
		if !met[want] {
			t.Error("error", int(want), "isn't met")
		}
	}
	for _, c := range []api.Chain{chain(2), chain(1 << 40)} {
		d, a := archive(t, 400, some(), c, records(2)...)
		for i, e := range wrongEvents() {
			what := fmt.Sprint("wrong event ", i)
			stays(t, what, d, a, likeCommit(t, what, d, a, e), api.ErrArg)
			stays(t, what+", down", fallen(d), a, commit(fallen(d), a, e), api.ErrArg)
		}
	}
}

// P17.1: a chain that has 2^40 records takes none; one that has one fewer takes one.
func TestCommitLast(t *testing.T) {
	d, a := archive(t, 400, some(), chain(1<<40))
	for _, e := range []api.Event{subscribe("z"), hold("z"), bring("a", "x")} {
		stays(t, "2^40", d, a, likeCommit(t, "2^40", d, a, e), api.ErrRange)
		stays(t, "2^40, down", fallen(d), a, commit(fallen(d), a, e), api.ErrRange)
	}
	d, a = archive(t, 400, some(), chain(1<<40-1))
	x := likeCommit(t, "2^40 - 1", d, a, subscribe("z"))
	if x.Err != 0 || x.Archive.Chain.Count != 1<<40 || written(t, x.Disk) != "+# +r9511627776 +sz" {
		t.Error(x.Err, x.Archive.Chain.Count, written(t, x.Disk))
	}
	stays(t, "one more", x.Disk, x.Archive, likeCommit(t, "one more", x.Disk, x.Archive, subscribe("y")), api.ErrRange)
}

// bodies: a state whose mailbox a has messages of so many bytes.
func bodies(sizes ...int) api.State {
	s := newState()
	s.NextValid = 3
	b := api.Box{Name: "a", Valid: 2, Next: len(sizes) + 1}
	for i, n := range sizes {
		b.Msgs = append(b.Msgs, api.Msg{UID: i + 1, Body: []byte(strings.Repeat("x", n))})
	}
	s.Boxes = append(s.Boxes, b)
	return s
}

// size: how many bytes the transaction of an event has.
func size(t *testing.T, a api.Archive, e api.Event) int {
	t.Helper()
	s, f := state.Apply(a.State, e)
	b, c, g := record.Next(a.Chain, e)
	if f != api.OK || g != api.OK {
		t.Fatal(int(f), int(g))
	}
	n := 8
	for _, x := range ownChanges(a.Store.Pairs, s, c, b) {
		n += 8 + len(text(x.Key))
		if !x.Gone {
			n += len(text(x.Val))
		}
	}
	return n
}

// P17.1: a transaction of just as many bytes as a record has, and one of a byte more: ErrFull.
func TestCommitLong(t *testing.T) {
	for what, e := range map[string]api.Event{"deleting": remove("a"), "expunging": expunge("a", 1, 2, 3), "copying": copies("a", "INBOX", 1, 2, 3)} {
		_, a := archive(t, 1000, bodies(2000, 2000, 0), api.Chain{})
		left := 6000 - size(t, a, e)
		if left < 100 || left > 1999 {
			t.Fatal(what, left)
		}
		d, a := archive(t, 1000, bodies(2000, 2000, left), api.Chain{})
		if x := likeCommit(t, what, d, a, e); size(t, a, e) != 6000 || x.Err != 0 || x.Archive.Chain.Count != 1 {
			t.Error(what, size(t, a, e), x.Err)
		}
		for _, n := range []int{left + 1, left + 2, 2000} {
			d, a = archive(t, 1000, bodies(2000, 2000, n), api.Chain{})
			stays(t, fmt.Sprint(what, " ", n), d, a, likeCommit(t, what, d, a, e), api.ErrFull)
			// It is refused ahead of the disk.
			stays(t, what+", down", fallen(d), a, commit(fallen(d), a, e), api.ErrFull)
		}
	}
}

// P17.1: 400 keys, and one more: ErrFull.
func TestCommitTooMany(t *testing.T) {
	n := 400 - len(ownKeys(some(), chain(0)))
	d, a := archive(t, 4000, some(), chain(n), records(n)...)
	for _, e := range []api.Event{subscribe("z"), store("INBOX", 1, 2, 1), create("z"), bring("a", "x"), hold("z"), lasts("a", 61), rename("a", "z"), expunge("INBOX", 1)} {
		stays(t, fmt.Sprint("400, kind ", e.Kind), d, a, likeCommit(t, "400", d, a, e), api.ErrFull)
	}
	for _, e := range []api.Event{forget("a"), release(2), lasts("a", 0), remove("b"), at(100, purge(7)), at(500, purge(3, 7))} {
		x := likeCommit(t, fmt.Sprint("400, kind ", e.Kind), d, a, e)
		if x.Err != 0 || len(x.Archive.Store.Pairs) > 400 {
			t.Errorf("400, kind %d: error %d, %d keys", e.Kind, x.Err, len(x.Archive.Store.Pairs))
		}
	}
	// With a record less there is room for one.
	d, a = archive(t, 4000, some(), chain(n-1), records(n-1)...)
	if x := likeCommit(t, "399", d, a, store("INBOX", 1, 2, 1)); x.Err != 0 || len(x.Archive.Store.Pairs) != 400 {
		t.Error("399:", x.Err)
	}
	stays(t, "399 and two", d, a, likeCommit(t, "399 and two", d, a, subscribe("z")), api.ErrFull)
}

// P17.1: until the disk is full, and behind that: what makes room still goes; the archive is Open's, too.
func TestCommitFull(t *testing.T) {
	for _, n := range []int{40, 61, 120, 300} {
		x := format(fresh(n))
		halves, done := map[int]bool{}, 0
		for x.Err == 0 {
			halves[x.Archive.Store.Log.Half] = true
			y := likeCommit(t, fmt.Sprint(n, " sectors, ", done), x.Disk, x.Archive, bring("INBOX", strings.Repeat("x", 20*(done%40))))
			if y.Err != 0 {
				stays(t, fmt.Sprint(n, " sectors, full"), x.Disk, x.Archive, y, api.ErrFull)
				break
			}
			x, done = y, done+1
		}
		if done == 0 || len(halves) != 2 {
			t.Error(n, "sectors:", done, "done,", halves)
		}
		if y := likeOpen(t, "full", x.Disk); y.Err != 0 || y.Archive.Chain != x.Archive.Chain || !state.Same(y.Archive.State, x.Archive.State) {
			t.Error(n, "sectors: opened:", y.Err)
		}
	}
}

// P17.1: a log of the last generation, that has no room: layer 6's ErrRange.
func TestCommitGeneration(t *testing.T) {
	d, a := archive(t, 400, some(), chain(3), records(3)...)
	a.Store.Log = api.Log{Half: 1, Gen: 1 << 40, Used: 200, Count: 7}
	stays(t, "no room", d, a, likeCommit(t, "no room", d, a, subscribe("z")), api.ErrRange)
	stays(t, "no room, down", fallen(d), a, commit(fallen(d), a, subscribe("z")), api.ErrRange)
	a.Store.Log.Used = 100
	if x := likeCommit(t, "room", d, a, subscribe("z")); x.Err != 0 || x.Archive.Store.Log.Gen != 1<<40 {
		t.Error(x.Err)
	}
}

// P17.1: a disk that is down, and one that falls at any deed of a Commit, appending or compacting; beside ErrDown the disk is the one that has fallen, the archive the one that was handed in.
func TestCommitFalls(t *testing.T) {
	d, a := archive(t, 200, some(), chain(3), records(3)...)
	for what, used := range map[string]int{"append": a.Store.Log.Used, "compact": 99} {
		b := a
		b.Store.Log.Used = used
		e := bring("INBOX", strings.Repeat("long", 50))
		x := likeCommit(t, what, fallen(d), b, e)
		stays(t, what+", down", fallen(d), b, x, api.ErrDown)
		for fuse := range 400 {
			name := fmt.Sprint(what, ", fuse ", fuse)
			x := likeCommit(t, name, armed(d, fuse), b, e)
			if x.Err == 0 {
				if fuse < 8 || what == "compact" && fuse < 100 {
					t.Error(name, "is too soon")
				}
				break
			}
			if x.Err != int(api.ErrDown) || !x.Disk.Down || told(x.Archive) != told(b) || fuse > 0 && sector.Same(x.Disk, fallen(armed(d, fuse))) {
				t.Errorf("%s: error %d", name, x.Err)
			}
		}
	}
}

// P17.1: a step that layer 6 refuses for another reason: its error, its disk.
func TestCommitStepRefused(t *testing.T) {
	d, a := archive(t, 200, some(), chain(3), records(3)...)
	d.Loose = slices.Repeat([]api.Write{{At: 199}}, 100_000)
	x := commit(d, a, subscribe("z"))
	stays(t, "too many loose writes", d, a, x, api.ErrArg)
	bare(t, "format", format(d), api.ErrArg)
	bare(t, "open", open(d), api.ErrArg)
}

// P17.1: events by chance, one after another: those that are done, those that aren't, and those for which there is no room.
func TestCommitChance(t *testing.T) {
	r := rand.New(rand.NewSource(17))
	met := map[int]int{}
	kinds := map[int]int{}
	for round := range 8 {
		n := []int{90, 151, 300, 700}[round%4]
		x := format(fresh(n))
		for step := range 120 {
			e := someEvent(r, x.Archive.State, []int{10, 200, 2000}[r.Intn(3)])
			what := fmt.Sprint("round ", round, ", step ", step)
			y := likeCommit(t, what, x.Disk, x.Archive, e)
			met[y.Err]++
			if y.Err != 0 {
				stays(t, what, x.Disk, x.Archive, y, api.Errno(y.Err))
				continue
			}
			kinds[e.Kind]++
			x = y
			if !keep.Right(x.Disk, x.Archive) {
				t.Fatal(what, "isn't right")
			}
			// Now and then it is opened, and goes on so.
			if r.Intn(4) == 0 {
				z := likeOpen(t, what, x.Disk)
				if z.Err != 0 || !state.Same(z.Archive.State, x.Archive.State) || z.Archive.Chain != x.Archive.Chain {
					t.Fatal(what, "opened:", z.Err)
				}
				x = z
			}
		}
		if s, c, f := audit.Replay(keep.Records(x.Archive)); f != api.OK || c != x.Archive.Chain || !state.Same(s, x.Archive.State) {
			t.Error("round", round, "replayed: error", int(f))
		}
	}
	if met[0] < 200 || met[int(api.ErrNone)] < 10 || met[int(api.ErrFull)] < 10 || met[int(api.ErrThere)] < 3 || len(kinds) != 14 {
		t.Error(met, kinds)
	}
}
