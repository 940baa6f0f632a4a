package keep_test

import (
	"fmt"
	"slices"
	"strings"
	"testing"

	"escheat/api"
	"escheat/keep"
	"escheat/kv"
	"escheat/sector"
	"escheat/state"
	"escheat/wal"
)

// wrongDisks: none of them may be.
func wrongDisks() []api.Disk {
	return []api.Disk{
		fresh(4097),
		armed(fresh(40), -2),
		armed(fresh(40), 1<<40+1),
		{Fuse: -1, Sectors: fresh(40).Sectors, Loose: []api.Write{{At: 40}}},
		{Fuse: -1, Sectors: fresh(40).Sectors, Loose: []api.Write{{At: -1}}},
		{Fuse: -1, Sectors: fresh(40).Sectors, Loose: make([]api.Write, 100_001)},
	}
}

// bare: beside an error Format and Open answer no archive.
func bare(t *testing.T, what string, x answer, want api.Errno) {
	t.Helper()
	if x.Err != int(want) || told(x.Archive) != told(api.Archive{}) {
		t.Errorf("%s: error %d, not %d, and beside it %s", what, x.Err, want, short(told(x.Archive)))
	}
}

// P17.1: Format, of disks of any size: the first keys take 4 sectors in a log that has 2 already, or, compacted, alone.
func TestFormat(t *testing.T) {
	for n := range 40 {
		for name, d := range map[string]api.Disk{"fresh": fresh(n), "littered": littered(n)} {
			what := fmt.Sprint(name, " of ", n)
			x := likeFormat(t, what, d)
			log := api.Log{Gen: 1, Used: 6, Count: 2}
			switch {
			case n < 4:
				bare(t, what, x, api.ErrFull)
				if !sector.Same(x.Disk, d) {
					t.Errorf("%s: another disk", what)
				}
				continue
			case n < 8:
				bare(t, what, x, api.ErrFull)
				empty, _, _ := kv.Format(d)
				if !sector.Same(x.Disk, empty) {
					t.Errorf("%s: the disk isn't that of an empty store", what)
				}
				continue
			case n < 12:
				log = api.Log{Half: 1, Gen: 2, Used: 4, Count: 1}
			}
			a := x.Archive
			if x.Err != 0 || a.Store.Log != log || !slices.Equal(a.Store.Pairs, newKeys()) || !state.Same(a.State, state.New()) || a.Chain != (api.Chain{}) {
				t.Errorf("%s: error %d, %s", what, x.Err, short(told(a)))
			}
			if !likeRight(t, what, x.Disk, a) || len(likeRecords(t, what, a)) != 0 {
				t.Errorf("%s: not right, or with records", what)
			}
			y := likeOpen(t, what, x.Disk)
			if y.Err != 0 || !state.Same(y.Archive.State, a.State) || y.Archive.Chain != a.Chain || !slices.Equal(y.Archive.Store.Pairs, newKeys()) {
				t.Errorf("%s: opened: error %d, %s", what, y.Err, short(told(y.Archive)))
			}
		}
	}
	if x := format(fresh(api.MaxSectors)); x.Err != 0 {
		t.Error("the greatest disk:", x.Err)
	}
}

// P17.1: what Format refuses: a disk that may not be, one that has fallen, and one that falls at any deed.
func TestFormatRefused(t *testing.T) {
	for i, d := range wrongDisks() {
		x := format(d)
		bare(t, fmt.Sprint("wrong disk ", i), x, api.ErrArg)
		if !sector.Same(x.Disk, d) {
			t.Error(i, "another disk")
		}
	}
	bare(t, "down", likeFormat(t, "down", fallen(littered(20))), api.ErrDown)
	bare(t, "down and too small", likeFormat(t, "down and too small", fallen(littered(2))), api.ErrFull)
	for _, n := range []int{8, 20} {
		for fuse := range 200 {
			what := fmt.Sprint(n, " sectors, fuse ", fuse)
			x := likeFormat(t, what, armed(littered(n), fuse))
			if x.Err == 0 {
				if fuse < 20 {
					t.Error(what, "is too soon")
				}
				break
			}
			bare(t, what, x, api.ErrDown)
			if !x.Disk.Down {
				t.Error(what, "hasn't fallen")
			}
		}
	}
}

// P17.1: Format of a disk that has an archive: another one, the first.
func TestFormatAgain(t *testing.T) {
	d, _ := played(t, 300, 20)
	x := likeFormat(t, "again", d)
	if x.Err != 0 || x.Archive.Chain.Count != 0 || len(x.Archive.Store.Pairs) != 3 {
		t.Error(x.Err, short(told(x.Archive)))
	}
	if y := likeOpen(t, "again", x.Disk); y.Err != 0 || y.Archive.Chain.Count != 0 {
		t.Error(y.Err)
	}
}

// P17.1: Open of disks without an archive: layer 6's errors, and Load's.
func TestOpenRefused(t *testing.T) {
	for i, d := range wrongDisks() {
		x := open(d)
		bare(t, fmt.Sprint("wrong disk ", i), x, api.ErrArg)
		if !sector.Same(x.Disk, d) {
			t.Error(i, "another disk")
		}
	}
	empty, _, _ := kv.Format(fresh(40))
	other, _ := stored(t, 40, []api.Pair{pair("a", "1"), pair("b", "2")})
	alone, _ := stored(t, 40, records(3))
	noState, _, _ := wal.Format(fresh(40), [][]byte{[]byte("something else")})
	archived, a := played(t, 300, 10)
	damaged := archived
	damaged.Sectors = slices.Clone(archived.Sectors)
	damaged.Sectors[a.Store.Log.Used-1][0] ^= 1
	for _, c := range []struct {
		what string
		d    api.Disk
		want api.Errno
	}{
		{"no sectors", fresh(0), api.ErrNone},
		{"never formatted", fresh(40), api.ErrNone},
		{"never formatted, with loose writes", littered(40), api.ErrNone},
		{"down", fallen(archived), api.ErrDown},
		{"down, never formatted", fallen(fresh(40)), api.ErrDown},
		{"damaged", damaged, api.ErrSum},
		{"no store", noState, api.ErrForm},
		{"an empty store", empty, api.ErrForm},
		{"another store", other, api.ErrForm},
		{"records alone", alone, api.ErrForm},
	} {
		x := likeOpen(t, c.what, c.d)
		bare(t, c.what, x, c.want)
		// Beside ErrForm the log was opened, and is in its other half.
		if sector.Same(x.Disk, c.d) == (c.want == api.ErrForm) {
			t.Error(c.what, "another disk than layer 6's")
		}
	}
}

// P17.1: Open's error is Load's, of whatever keys; that comes ahead of ErrChain.
func TestOpenLoads(t *testing.T) {
	l := ownKeys(some(), chain(2))
	for i, p := range l {
		for _, c := range []struct {
			what    string
			l       []api.Pair
			counted bool
		}{
			{"left out " + p.Key, slices.Delete(slices.Clone(l), i, i+1), true},
			{"more of " + p.Key, slices.Concat(l[:i], []api.Pair{pair(p.Key, p.Val+"x")}, l[i+1:]), true},
			{"left out, uncounted, " + p.Key, slices.Delete(slices.Clone(l), i, i+1), false},
			{"more, uncounted, of " + p.Key, slices.Concat(l[:i], []api.Pair{pair(p.Key, p.Val+"x")}, l[i+1:]), false},
		} {
			all := append(slices.Clone(c.l), records(1)...)
			if c.counted {
				all = append(slices.Clone(c.l), records(2)...)
			}
			slices.SortFunc(all, func(a, b api.Pair) int { return strings.Compare(a.Key, b.Key) })
			d, _ := stored(t, 400, all)
			want := ownLoad(c.l).Err
			if want == 0 && !c.counted {
				want = int(api.ErrChain)
			}
			if x := likeOpen(t, c.what, d); x.Err != want {
				t.Errorf("%s: error %d, not %d", c.what, x.Err, want)
			}
		}
	}
}

// P17.1: Open finds the records from 1 on, as many as Count says, or tells ErrChain.
func TestOpenRecords(t *testing.T) {
	some := func(keys ...string) []api.Pair {
		l := []api.Pair{}
		for _, k := range keys {
			l = append(l, pair(k, "any "+k))
		}
		return l
	}
	one, two, three, four := recordKey(1), recordKey(2), recordKey(3), recordKey(4)
	for i, c := range []struct {
		count int
		l     []api.Pair
		want  api.Errno
	}{
		{0, nil, api.OK}, {1, records(1), api.OK}, {3, records(3), api.OK}, {12, records(12), api.OK}, {397, records(397), api.OK},
		{0, records(1), api.ErrChain}, {1, nil, api.ErrChain}, {3, nil, api.ErrChain}, {3, records(2), api.ErrChain}, {3, records(4), api.ErrChain}, {396, records(397), api.ErrChain}, {397, records(396), api.ErrChain},
		{3, some(one, two, four), api.ErrChain}, {3, some(one, three, four), api.ErrChain}, {3, some(two, three, four), api.ErrChain}, {4, some(one, two, four), api.ErrChain}, {2, some(one, three), api.ErrChain}, {1, some(two), api.ErrChain},
		{1, some(recordKey(0)), api.ErrChain}, {2, some(recordKey(0), one), api.ErrChain}, {3, some(recordKey(0), one, two), api.ErrChain},
		{1, some("r"), api.ErrChain}, {0, some("r"), api.ErrChain}, {1, some("r1"), api.ErrChain}, {1, some("r000000001"), api.ErrChain}, {1, some("r00000000001"), api.ErrChain}, {1, some("r+000000001"), api.ErrChain}, {1, some("r         1"), api.ErrChain}, {1, some("r0000000001x"), api.ErrChain}, {1, some("r0000000001\x00"), api.ErrChain},
		{3, some(one, two, "r000000003"), api.ErrChain}, {3, some(one, two, "r3"), api.ErrChain}, {3, some("r", one, two, three), api.ErrChain}, {4, some("r", one, two, three), api.ErrChain}, {3, some(one, two, three, "rx"), api.ErrChain}, {4, some(one, two, three, "rx"), api.ErrChain}, {2, some(one, "r0000000001x", two), api.ErrChain},
		{1 << 40, nil, api.ErrChain}, {1 << 40, records(3), api.ErrChain}, {10_000_000_001, records(1), api.ErrChain}, {10_000_000_000, nil, api.ErrChain},
	} {
		what := fmt.Sprintf("%d: Count %d, %d records", i, c.count, len(c.l))
		d, a := archive(t, 1000, newState(), chain(c.count), c.l...)
		x := likeOpen(t, what, d)
		if c.want != api.OK {
			bare(t, what, x, c.want)
			if after, _, _ := kv.Open(d); !sector.Same(x.Disk, after) {
				t.Error(what, "the disk isn't layer 6's")
			}
		} else if x.Err != 0 || x.Archive.Chain != chain(c.count) || !slices.Equal(x.Archive.Store.Pairs, a.Store.Pairs) {
			t.Errorf("%s: error %d, %s", what, x.Err, short(told(x.Archive)))
		}
		if !likeRight(t, what, d, a) {
			t.Errorf("%s: not right", what)
		}
	}
}

// P17.1: Open, of each state and chain that a store has room for; armed, it falls.
func TestOpen(t *testing.T) {
	for name, s := range states() {
		if name == "greatest" {
			continue
		}
		d, a := archive(t, 1000, s, chain(5), records(5)...)
		x := likeOpen(t, name, d)
		if x.Err != 0 || !state.Same(x.Archive.State, s) || x.Archive.Chain != chain(5) || !slices.Equal(x.Archive.Store.Pairs, a.Store.Pairs) {
			t.Errorf("%s: error %d, %s", name, x.Err, short(told(x.Archive)))
		}
		if !likeRight(t, name, x.Disk, x.Archive) {
			t.Errorf("%s: not right", name)
		}
		for _, fuse := range []int{0, 1, 499, 500, 501, 502, 503} {
			what := fmt.Sprint(name, ", fuse ", fuse)
			if x := likeOpen(t, what, armed(d, fuse)); x.Err != int(api.ErrDown) || !x.Disk.Down {
				t.Errorf("%s: error %d", what, x.Err)
			}
		}
	}
}

// P17.1: Records, of none, one and many; whatever begins with r is one, and nothing else.
func TestRecords(t *testing.T) {
	for _, n := range []int{0, 1, 2, 9, 10, 100, 397} {
		_, a := archive(t, 1000, newState(), chain(n), records(n)...)
		l := likeRecords(t, fmt.Sprint(n), a)
		if len(l) != n {
			t.Errorf("%d records, not %d", len(l), n)
		}
		for i, b := range l {
			if string(b) != fmt.Sprint("record ", i+1) {
				t.Errorf("%d: %q", i, b)
			}
		}
	}
	for name, l := range map[string][]api.Pair{
		"no pairs": nil,
		"others":   {pair("", "x"), pair("R1", "x"), pair("q", "x"), pair("s", "x"), pair("\xf2", "x"), pair("ar", "x")},
		"any":      {pair("a", "x"), pair("r", "one"), pair("r\x00", ""), pair("r0000000001", "three"), pair("rr", strings.Repeat("long", 5000)), pair("s", "x")},
		"falling":  {pair("r2", "first"), pair("b", "x"), pair("r1", "second"), pair("r1", "third")},
	} {
		likeRecords(t, name, api.Archive{Store: api.Store{Pairs: l}})
	}
	_, a := played(t, 1000, len(story()))
	events := []api.Event{}
	for _, s := range story() {
		events = append(events, s.e)
	}
	_, _, want := replayed(t, events)
	if got := likeRecords(t, "the story", a); told(got) != told(want) {
		t.Error("other records than the story's")
	}
}

// part is what of an archive is changed, and whether it may be on the disk then.
type part struct {
	what   string
	change func(*api.Archive)
	right  bool
}

// parts: each part of an archive of some() and chain(3), changed.
func parts() []part {
	all := []part{
		{"nothing", func(*api.Archive) {}, true},
		{"Half", func(a *api.Archive) { a.Store.Log.Half = 1 }, true},
		{"Half 2", func(a *api.Archive) { a.Store.Log.Half = 2 }, false},
		{"Gen 0", func(a *api.Archive) { a.Store.Log.Gen = 0 }, false},
		{"Gen beyond", func(a *api.Archive) { a.Store.Log.Gen = 1<<40 + 1 }, false},
		{"Used 1", func(a *api.Archive) { a.Store.Log.Used, a.Store.Log.Count = 1, 1 }, false},
		{"Used beyond", func(a *api.Archive) { a.Store.Log.Used = 201 }, false},
		{"Count 0", func(a *api.Archive) { a.Store.Log.Count = 0 }, false},
		{"no log", func(a *api.Archive) { a.Store.Log = api.Log{} }, false},
		{"no pairs", func(a *api.Archive) { a.Store.Pairs = nil }, false},
		{"no records", func(a *api.Archive) { a.Store.Pairs = others(a.Store.Pairs) }, true},
		{"only records", func(a *api.Archive) { a.Store.Pairs = onlyRecords(a.Store.Pairs) }, false},
		{"a record with another value", func(a *api.Archive) {
			at := slices.IndexFunc(a.Store.Pairs, isRecord)
			a.Store.Pairs[at].Val = "other"
		}, true},
		{"a record with a value too long", func(a *api.Archive) {
			at := slices.IndexFunc(a.Store.Pairs, isRecord)
			a.Store.Pairs[at].Val = strings.Repeat("x", 4097)
		}, false},
		{"another thing with an r", func(a *api.Archive) {
			at := slices.IndexFunc(a.Store.Pairs, isRecord)
			a.Store.Pairs = slices.Insert(a.Store.Pairs, at, pair("r", ""))
		}, true},
		{"a record twice", func(a *api.Archive) {
			at := slices.IndexFunc(a.Store.Pairs, isRecord)
			a.Store.Pairs = slices.Insert(a.Store.Pairs, at, a.Store.Pairs[at])
		}, false},
		{"a record at the end", func(a *api.Archive) { a.Store.Pairs = append(a.Store.Pairs, pair(recordKey(4), "")) }, false},
		{"the first state", func(a *api.Archive) { a.State = newState() }, false},
		{"no state", func(a *api.Archive) { a.State = api.State{} }, false},
		{"the first chain", func(a *api.Archive) { a.Chain = api.Chain{} }, false},
		{"Count less", func(a *api.Archive) { a.Chain.Count-- }, false},
		{"Count more", func(a *api.Archive) { a.Chain.Count++ }, false},
		{"Count below 0", func(a *api.Archive) { a.Chain.Count = -1 }, false},
		{"all Heads", func(a *api.Archive) { a.Chain.Head = [32]byte{} }, false},
		{"Clock", func(a *api.Archive) { a.State.Clock++ }, false},
		{"NextValid", func(a *api.Archive) { a.State.NextValid++ }, false},
		{"NextTomb", func(a *api.Archive) { a.State.NextTomb++ }, false},
		{"NextHold", func(a *api.Archive) { a.State.NextHold++ }, false},
		{"a mailbox less", func(a *api.Archive) { a.State.Boxes = a.State.Boxes[1:] }, false},
		{"a mailbox more", func(a *api.Archive) {
			a.State.Boxes = append(a.State.Boxes, api.Box{Name: "~~", Valid: 6, Next: 1})
		}, false},
		{"a name", func(a *api.Archive) { a.State.Boxes[0].Name = "\"" }, false},
		{"another name", func(a *api.Archive) { a.State.Boxes[0].Name = "#" }, false},
		{"Valid", func(a *api.Archive) { a.State.Boxes[0].Valid = 6 }, false},
		{"Next", func(a *api.Archive) { a.State.Boxes[0].Next++ }, false},
		{"a message less", func(a *api.Archive) { a.State.Boxes[1].Msgs = a.State.Boxes[1].Msgs[:1] }, false},
		{"a message more", func(a *api.Archive) { a.State.Boxes[1].Msgs = append(a.State.Boxes[1].Msgs, msg(4, "")) }, false},
		{"a UID", func(a *api.Archive) { a.State.Boxes[1].Msgs[0].UID = 2 }, false},
		{"Flags", func(a *api.Archive) { a.State.Boxes[1].Msgs[0].Flags ^= 1 }, false},
		{"a Date", func(a *api.Archive) { a.State.Boxes[1].Msgs[0].Date++ }, false},
		{"a Body", func(a *api.Archive) { a.State.Boxes[1].Msgs[0].Body[0] ^= 1 }, false},
		{"a Body cut", func(a *api.Archive) { a.State.Boxes[1].Msgs[0].Body = a.State.Boxes[1].Msgs[0].Body[1:] }, false},
		{"a sub", func(a *api.Archive) { a.State.Subs[0] = "b" }, false},
		{"a sub less", func(a *api.Archive) { a.State.Subs = a.State.Subs[1:] }, false},
		{"a sub more", func(a *api.Archive) { a.State.Subs = append(a.State.Subs, "z") }, false},
		{"a rule's name", func(a *api.Archive) { a.State.Rules[0].Box = "b" }, false},
		{"Keep", func(a *api.Archive) { a.State.Rules[0].Keep++ }, false},
		{"a rule less", func(a *api.Archive) { a.State.Rules = a.State.Rules[1:] }, false},
		{"a rule more", func(a *api.Archive) { a.State.Rules = append(a.State.Rules, api.Rule{Box: "z", Keep: 1}) }, false},
		{"a tomb's ID", func(a *api.Archive) { a.State.Tombs[0].ID = 2 }, false},
		{"a tomb's name", func(a *api.Archive) { a.State.Tombs[0].Box = "b" }, false},
		{"a tomb's At", func(a *api.Archive) { a.State.Tombs[0].At++ }, false},
		{"a tomb's UID", func(a *api.Archive) { a.State.Tombs[0].Msg.UID++ }, false},
		{"a tomb's flags", func(a *api.Archive) { a.State.Tombs[0].Msg.Flags ^= 1 }, false},
		{"a tomb's date", func(a *api.Archive) { a.State.Tombs[0].Msg.Date++ }, false},
		{"a tomb's body", func(a *api.Archive) { a.State.Tombs[0].Msg.Body[0] ^= 1 }, false},
		{"a tomb less", func(a *api.Archive) { a.State.Tombs = a.State.Tombs[1:] }, false},
		{"a tomb more", func(a *api.Archive) {
			a.State.Tombs = append(a.State.Tombs, api.Tomb{ID: 11, Box: "a", Msg: msg(1, "")})
		}, false},
		{"a hold's ID", func(a *api.Archive) { a.State.Holds[0].ID = 1 }, false},
		{"a hold's name", func(a *api.Archive) { a.State.Holds[0].Box = "b" }, false},
		{"a hold's end", func(a *api.Archive) { a.State.Holds[0].Set[1].To++ }, false},
		{"a hold's range less", func(a *api.Archive) { a.State.Holds[0].Set = a.State.Holds[0].Set[:1] }, false},
		{"a hold's range more", func(a *api.Archive) { a.State.Holds[1].Set = ends(1, 2) }, false},
		{"a hold less", func(a *api.Archive) { a.State.Holds = a.State.Holds[1:] }, false},
		{"a hold more", func(a *api.Archive) { a.State.Holds = append(a.State.Holds, api.Hold{ID: 4, Box: "a"}) }, false},
	}
	for i := range 32 {
		all = append(all, part{fmt.Sprint("byte ", i, " of the Head"), func(a *api.Archive) { a.Chain.Head[i] ^= 1 }, false})
	}
	for i, p := range ownKeys(some(), chain(3)) {
		// The records stand among the keys.
		find := func(a *api.Archive) int {
			return slices.IndexFunc(a.Store.Pairs, func(q api.Pair) bool { return p.Key == q.Key })
		}
		all = append(all,
			part{"without " + p.Key, func(a *api.Archive) { a.Store.Pairs = slices.Delete(a.Store.Pairs, find(a), find(a)+1) }, false},
			part{"twice " + p.Key, func(a *api.Archive) { a.Store.Pairs = slices.Insert(a.Store.Pairs, find(a), p) }, false},
			part{"more behind " + p.Key, func(a *api.Archive) {
				a.Store.Pairs = slices.Insert(a.Store.Pairs, find(a)+1, pair(p.Key+"\x00", ""))
			}, false},
			part{"another " + p.Key, func(a *api.Archive) { a.Store.Pairs[find(a)].Val += "x" }, false})
		if i > 0 {
			all = append(all, part{"too early " + p.Key, func(a *api.Archive) {
				at := find(a)
				a.Store.Pairs[at], a.Store.Pairs[at-1] = a.Store.Pairs[at-1], a.Store.Pairs[at]
			}, false})
		}
	}
	return all
}

// P17.1: Right, with each part of an archive changed; Commit tells ErrArg of what isn't right, whatever else is wrong, and writes nothing.
func TestRight(t *testing.T) {
	for _, n := range []int{400, 401} {
		d, a := archive(t, n, some(), chain(3), records(3)...)
		for _, p := range parts() {
			b := lent(a)
			p.change(&b)
			if likeRight(t, p.what, d, b) != p.right {
				t.Errorf("%s: not %t", p.what, p.right)
			}
			if keep.Right(fallen(d), b) != p.right || keep.Right(armed(d, 0), b) != p.right {
				t.Errorf("%s: down, or about to fall: not %t", p.what, p.right)
			}
			if p.right {
				continue
			}
			for _, e := range []api.Event{subscribe("z"), create("INBOX"), {}} {
				stays(t, p.what, d, b, likeCommit(t, p.what, d, b, e), api.ErrArg)
				stays(t, p.what+", down", fallen(d), b, commit(fallen(d), b, e), api.ErrArg)
			}
		}
	}
}

// P17.1: an archive may be on each disk that its log may be on; on no disk that may not be.
func TestRightDisks(t *testing.T) {
	d, a := archive(t, 400, some(), chain(3), records(3)...)
	used := a.Store.Log.Used
	for _, c := range []struct {
		what string
		d    api.Disk
		want bool
	}{
		{"its own", d, true}, {"another one", fresh(400), true}, {"a greater one", fresh(1000), true}, {"down", fallen(d), true}, {"just great enough", fresh(2 * used), true}, {"too small", fresh(2*used - 1), false}, {"none", api.Disk{}, false}, {"nothing", fresh(0), false},
	} {
		if likeRight(t, c.what, c.d, a) != c.want {
			t.Errorf("%s: not %t", c.what, c.want)
		}
		if !c.want {
			stays(t, c.what, c.d, a, commit(c.d, a, subscribe("z")), api.ErrArg)
		}
	}
	for i, d := range wrongDisks() {
		if keep.Right(d, a) {
			t.Error("wrong disk", i)
		}
		stays(t, fmt.Sprint("wrong disk ", i), d, a, commit(d, a, subscribe("z")), api.ErrArg)
	}
	if keep.Right(d, api.Archive{}) {
		t.Error("no archive may be")
	}
}

// P17.1: a state or a chain that may not be is never right, though the keys are its.
func TestRightWrong(t *testing.T) {
	for name, s := range wrongStates() {
		l := ownKeys(s, chain(3))
		a := api.Archive{Store: api.Store{Log: api.Log{Gen: 1, Used: 9, Count: 2}, Pairs: l}, State: s, Chain: chain(3)}
		if likeRight(t, name, fresh(40), a) {
			t.Error(name, "may be")
		}
	}
	for _, count := range []int{-1, 1<<40 + 1} {
		a := api.Archive{Store: api.Store{Log: api.Log{Gen: 1, Used: 9, Count: 2}, Pairs: ownKeys(some(), chain(count))}, State: some(), Chain: chain(count)}
		if likeRight(t, fmt.Sprint("Count ", count), fresh(40), a) {
			t.Error("Count", count)
		}
	}
	// More keys than a store may have.
	a := api.Archive{Store: api.Store{Log: api.Log{Gen: 1, Used: 9, Count: 2}, Pairs: ownKeys(greatest(), chain(3))}, State: greatest(), Chain: chain(3)}
	if keep.Right(fresh(40), a) {
		t.Error("too many keys")
	}
}
