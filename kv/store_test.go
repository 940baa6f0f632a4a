package kv_test

import (
	"bytes"
	"fmt"
	"math/rand"
	"slices"
	"strings"
	"testing"

	"escheat/api"
	"escheat/kv"
	"escheat/sector"
	"escheat/wal"
)

// wrongDisks: disks that may not be.
func wrongDisks() []api.Disk {
	stray := fresh(20)
	stray.Loose = []api.Write{{At: 20}}
	return []api.Disk{armed(fresh(20), -2), armed(fresh(20), maxGen+1), stray, fallen(stray), {Sectors: make([]sec, 4097), Fuse: -1}}
}

// wrongLogs: logs that may not be on a disk of 20 sectors.
func wrongLogs() []api.Log {
	return []api.Log{
		{}, {Half: 2, Gen: 1, Used: 2, Count: 1}, {Half: -1, Gen: 1, Used: 2, Count: 1}, {Used: 2, Count: 1}, {Gen: maxGen + 1, Used: 2, Count: 1},
		{Gen: 1, Used: 1, Count: 1}, {Gen: 1, Used: 11, Count: 1}, {Gen: 1, Used: 2}, {Gen: 1, Used: 2, Count: 3},
	}
}

// wrongPairs: pairs that may not be.
func wrongPairs() map[string][]api.Pair {
	long := strings.Repeat("k", 65)
	return map[string][]api.Pair{
		"401 pairs":                  many(401, 0),
		"an empty key":               {pair("", "x")},
		"an empty key ahead":         {pair("", "x"), pair("a", "1")},
		"a key of 65":                {pair(long, "")},
		"a key of 65, behind others": {pair("a", ""), pair("b", ""), pair(long, "")},
		"a value of 4097":            {pair("a", text(4097, 1))},
		"the last value of 4097":     {pair("a", "1"), pair("b", text(4097, 1))},
		"out of order":               {pair("b", "1"), pair("a", "2")},
		"the last out of order":      {pair("a", "1"), pair("c", "2"), pair("b", "3")},
		"the first out of order":     {pair("b", "1"), pair("a", "2"), pair("c", "3")},
		"high bytes out of order":    {pair("\x80", "1"), pair("\x7f", "2")},
		"shorter behind longer":      {pair("ab", "1"), pair("a", "2")},
		"a key twice":                {pair("a", "1"), pair("a", "2")},
		"the last key twice":         {pair("a", "1"), pair("b", "2"), pair("b", "2")},
	}
}

func rightPairs() map[string][]api.Pair {
	return map[string][]api.Pair{
		"none": nil, "empty": {}, "400 pairs": many(400, 0), "400 great ones": many(400, 4096),
		"a key of 64":           {pair(strings.Repeat("k", 64), text(4096, 1))},
		"an equal beginning":    {pair("a", "2"), pair("a\x00", "1"), pair("ab", "")},
		"bytes above 127":       {pair("\x7f", ""), pair("\x80", ""), pair("\x80\x00", ""), pair("\xff", "")},
		"smaller values behind": {pair("a", "9"), pair("b", "1")},
	}
}

// P6.1: Right, of each part that may not be.
func TestRight(t *testing.T) {
	d := littered(20)
	log := api.Log{Gen: 1, Used: 2, Count: 1}
	for name, l := range rightPairs() {
		for _, d := range []api.Disk{d, fallen(d), armed(d, 0), fresh(4)} {
			if !kv.Right(d, api.Store{Log: log, Pairs: l}) {
				t.Error(name, "may not be")
			}
		}
		for _, x := range wrongLogs() {
			if kv.Right(d, api.Store{Log: x, Pairs: l}) {
				t.Error(name, "may be, with the log", x)
			}
		}
		for i, x := range wrongDisks() {
			if kv.Right(x, api.Store{Log: log, Pairs: l}) {
				t.Error(name, "may be, on the wrong disk", i)
			}
		}
	}
	for name, l := range wrongPairs() {
		if kv.Right(d, api.Store{Log: log, Pairs: l}) {
			t.Error(name, "may be")
		}
	}
	if kv.Right(fresh(3), api.Store{Log: log}) {
		t.Error("a store on three sectors may be")
	}
}

// P6.1: Format, and each of its errors.
func TestFormat(t *testing.T) {
	for _, n := range []int{4, 5, 6, 20, 21, 4096} {
		d := littered(n)
		got := format(d)
		expect(t, fmt.Sprint(n, " sectors"), got, ownFormat(d))
		if got.e != api.OK || got.s.Log != (api.Log{Gen: 1, Used: 2, Count: 1}) || len(got.s.Pairs) != 0 || !kv.Right(got.d, got.s) {
			t.Error(n, got.s, got.e)
		}
		if x := open(got.d); x.e != api.OK || len(x.s.Pairs) != 0 {
			t.Error(n, x.s, x.e)
		}
	}
	for n := range 4 {
		for _, d := range []api.Disk{littered(n), fallen(littered(n)), armed(littered(n), 0)} {
			expect(t, fmt.Sprint(n, " sectors"), format(d), answer{d: d, e: api.ErrFull})
		}
	}
	for i, d := range wrongDisks() {
		expect(t, fmt.Sprint("wrong disk ", i), format(d), answer{d: d, e: api.ErrArg})
	}
	expect(t, "down", format(fallen(littered(20))), answer{d: fallen(littered(20)), e: api.ErrDown})
	for fuse := range 13 {
		d := armed(littered(20), fuse)
		got := format(d)
		expect(t, fmt.Sprint("falls at ", fuse), got, ownFormat(d))
		if got.e != api.ErrDown || !got.d.Down {
			t.Error(fuse, got.e)
		}
	}
	// what was there is there no more
	x := with(t, 20, many(3, 2))
	for _, x := range []answer{x, open(x.d)} {
		y := format(x.d)
		expect(t, "anew", y, ownFormat(x.d))
		if z := open(y.d); z.e != api.OK || len(z.s.Pairs) != 0 {
			t.Error(z.s, z.e)
		}
	}
}

// P6.1: Open, of what stories of transactions leave.
func TestOpen(t *testing.T) {
	for name, l := range rightPairs() {
		n := 400
		if len(l) == 400 && l[0].Val != "" {
			continue // more than a disk holds
		}
		x := with(t, n, l)
		got := open(x.d)
		expect(t, name, got, ownOpen(x.d))
		if got.e != api.OK || !slices.Equal(got.s.Pairs, l) || !kv.Right(got.d, got.s) {
			t.Error(name, short(got.s.Pairs), got.e)
		}
		again := open(got.d)
		if again.e != api.OK || !slices.Equal(again.s.Pairs, l) || again.s.Log.Half == got.s.Log.Half {
			t.Error(name, short(again.s.Pairs), again.e)
		}
	}
}

// P6.1: Open's errors of the log, and the disk beside them.
func TestOpenRefused(t *testing.T) {
	for i, d := range wrongDisks() {
		expect(t, fmt.Sprint("wrong disk ", i), open(d), answer{d: d, e: api.ErrArg})
	}
	for _, n := range []int{0, 1, 3, 20, 4096} {
		expect(t, "none", open(littered(n)), answer{d: littered(n), e: api.ErrNone})
		expect(t, "down, none", open(fallen(littered(n))), answer{d: fallen(littered(n)), e: api.ErrDown})
	}
	x := with(t, 20, many(3, 2))
	expect(t, "down", open(fallen(x.d)), answer{d: fallen(x.d), e: api.ErrDown})
	for fuse := range 18 {
		d := armed(x.d, fuse)
		got := open(d)
		expect(t, fmt.Sprint("falls at ", fuse), got, ownOpen(d))
		if got.e != api.ErrDown || !got.d.Down {
			t.Error(fuse, got.e)
		}
	}
	damaged := deep(x.d)
	damaged.Sectors[3][9] ^= 1
	expect(t, "damaged", open(damaged), answer{d: damaged, e: api.ErrSum})
	d, _, e := wal.Compact(x.d, api.Log{Gen: maxGen - 1, Used: 2, Count: 1}, [][]byte{make([]byte, 8)})
	if e != api.OK {
		t.Fatal(e)
	}
	expect(t, "the last generation", open(d), answer{d: d, e: api.ErrRange})
}

// P6.1: Open of records that are no transactions, or of too many pairs; the disk is then that of the log behind its opening.
func TestOpenForm(t *testing.T) {
	ok := ownBytes([]api.Change{put("a", "1")})
	first, second := ownBytes(puts(many(400, 0)[:200])), ownBytes(puts(many(400, 0)[200:]))
	for _, x := range []struct {
		name string
		list [][]byte
		e    api.Errno
		n    int
	}{
		{"one byte", [][]byte{{0}}, api.ErrForm, 0},
		{"too short", [][]byte{num(nil, 1)}, api.ErrForm, 0},
		{"too short, behind others", [][]byte{ok, ok, ok[:len(ok)-1]}, api.ErrForm, 0},
		{"too short, ahead of others", [][]byte{ok[:len(ok)-1], ok}, api.ErrForm, 0},
		{"a count of 401", [][]byte{num(nil, 401)}, api.ErrForm, 0},
		{"a value of 4097", [][]byte{append(txt(num(num(nil, 1), 0), "a"), 0, 0, 0x10, 1)}, api.ErrForm, 0},
		{"bytes that are left", [][]byte{append(slices.Clone(ok), 0)}, api.ErrForm, 0},
		{"the number 2", [][]byte{txt(num(num(nil, 1), 2), "a")}, api.ErrForm, 0},
		{"an empty key", [][]byte{ok, ownBytes([]api.Change{put("", "1")})}, api.ErrForm, 0},
		{"an empty key that goes", [][]byte{ownBytes([]api.Change{gone("")})}, api.ErrForm, 0},
		{"a key of 65", [][]byte{ownBytes([]api.Change{put(text(65, 1), "1")}), ok}, api.ErrForm, 0},
		{"401 pairs", [][]byte{first, second, ok}, api.ErrForm, 0},
		{"401 pairs, in time", [][]byte{first, second, ok, ownBytes([]api.Change{gone("a")})}, api.ErrForm, 0},
		{"400 pairs", [][]byte{first, second}, api.OK, 400},
		{"400 pairs, one in place of another", [][]byte{first, second, ownBytes([]api.Change{put("a", "1"), gone("0000")})}, api.OK, 400},
		{"400 pairs, one more within a transaction", [][]byte{first, second, ownBytes([]api.Change{put("a", "1"), put("b", "1"), gone("a"), gone("b")})}, api.OK, 400},
		{"400 pairs, gone ahead", [][]byte{first, second, ownBytes([]api.Change{gone("0399")}), ok}, api.OK, 400},
		{"no pairs behind each", [][]byte{ok, ownBytes([]api.Change{gone("a")}), ownBytes(nil), ownBytes([]api.Change{gone("b")})}, api.OK, 0},
		{"a transaction of 6000 bytes", [][]byte{ok, ownBytes([]api.Change{put("c", text(4096, 1)), put("b", text(1862, 2))})}, api.OK, 3},
	} {
		for _, base := range []api.Disk{fresh(1000), littered(1001)} {
			d, _, e := wal.Format(base, x.list)
			if e != api.OK {
				t.Fatal(x.name, e)
			}
			got := open(d)
			expect(t, x.name, got, ownOpen(d))
			if got.e != x.e || len(got.s.Pairs) != x.n {
				t.Errorf("%s: %d pairs, error %d, not %d, %d", x.name, len(got.s.Pairs), got.e, x.n, x.e)
			}
			after, _, _, e := wal.Open(d)
			if e != api.OK || !sector.Same(got.d, after) {
				t.Error(x.name, "the disk is another one", e)
			}
			expect(t, x.name+", falls", open(armed(d, 0)), answer{d: fallen(armed(d, 0)), e: api.ErrDown})
		}
	}
}

// P6.1: Commit, of puts, changes and goings; what is answered has it, and the disk, too.
func TestCommit(t *testing.T) {
	for _, n := range []int{40, 41, 300} {
		x := format(littered(n))
		r := rand.New(rand.NewSource(int64(n)))
		appended, compacted, full := 0, 0, 0
		for i := range 600 {
			l := someChanges(r, r.Intn(5), 1<<r.Intn(11))
			what := fmt.Sprint(n, " sectors, step ", i)
			got := commit(x.d, x.s, l)
			expect(t, what, got, ownCommit(x.d, x.s, l))
			switch {
			case got.e == api.ErrFull:
				full++
				got = commit(x.d, x.s, none(x.s.Pairs))
				if got.e != api.OK || len(got.s.Pairs) != 0 {
					t.Fatal(what, short(got.s.Pairs), got.e)
				}
			case got.e != api.OK:
				t.Fatal(what, got.e)
			case got.s.Log.Half == x.s.Log.Half:
				appended++
			default:
				compacted++
			}
			x = got
			if y := open(x.d); y.e != api.OK || !slices.Equal(y.s.Pairs, x.s.Pairs) {
				t.Fatal(what, "opened:", short(y.s.Pairs), y.e)
			}
		}
		if appended < 20 || compacted < 5 || n < 100 && full < 5 {
			t.Error(n, "sectors:", appended, "appended", compacted, "compacted", full, "full")
		}
	}
}

// P6.1: a transaction without changes is one, too.
func TestCommitNothing(t *testing.T) {
	x := with(t, 20, many(1, 1))
	for _, l := range [][]api.Change{nil, {}, {gone("none")}} {
		got := commit(x.d, x.s, l)
		expect(t, "nothing", got, ownCommit(x.d, x.s, l))
		if got.e != api.OK || !slices.Equal(got.s.Pairs, many(1, 1)) || got.s.Log.Count != x.s.Log.Count+1 {
			t.Error(got.s, got.e)
		}
		x = got
	}
}

// P6.1: where the log's half has just room, and where not; where the snapshot has, and where not.
func TestCommitFull(t *testing.T) {
	// Of 40 sectors: 18 are left in the half; a record of one change has 25 bytes beside its value (its key is of one byte).
	x := format(fresh(40))
	big := func(size int) []api.Change { return []api.Change{put("a", text(size, 1))} }
	for _, c := range []struct {
		size int
		e    api.Errno
		log  api.Log
	}{
		{17*64 - 25, api.OK, api.Log{Gen: 1, Used: 20, Count: 2}},
		{17*64 - 24, api.OK, api.Log{Half: 1, Gen: 2, Used: 19, Count: 1}},
		{18*64 - 25, api.OK, api.Log{Half: 1, Gen: 2, Used: 19, Count: 1}},
		{19*64 - 25, api.OK, api.Log{Half: 1, Gen: 2, Used: 20, Count: 1}},
		{19*64 - 24, api.ErrFull, x.s.Log},
		{4096, api.ErrFull, x.s.Log},
	} {
		got := commit(x.d, x.s, big(c.size))
		expect(t, fmt.Sprint(c.size), got, ownCommit(x.d, x.s, big(c.size)))
		if got.e != c.e || got.s.Log != c.log {
			t.Error(c.size, got.s.Log, got.e)
		}
		if got.e != api.OK {
			expect(t, "full", got, answer{x.d, x.s, api.ErrFull})
			continue
		}
		if y := open(got.d); y.e != api.OK || !slices.Equal(y.s.Pairs, []api.Pair{pair("a", text(c.size, 1))}) {
			t.Error(c.size, short(y.s.Pairs), y.e)
		}
	}
	// Compacted, the pairs are those behind the transaction: what goes, goes.
	full := commit(x.d, x.s, big(17*64-25))
	got := commit(full.d, full.s, []api.Change{gone("a"), put("b", "2"), put("c", "3")})
	if got.e != api.OK || got.s.Log != (api.Log{Half: 1, Gen: 2, Used: 2, Count: 1}) || !slices.Equal(got.s.Pairs, []api.Pair{pair("b", "2"), pair("c", "3")}) {
		t.Error(got.s, got.e)
	}
	got = commit(full.d, full.s, []api.Change{gone("a")})
	if got.e != api.OK || got.s.Log != (api.Log{Half: 1, Gen: 2, Used: 2, Count: 1}) || len(got.s.Pairs) != 0 {
		t.Error(got.s, got.e)
	}
	// A snapshot of several records.
	y := with(t, 1000, many(400, 20))
	for y.e == api.OK && y.s.Log.Half == 0 {
		z := commit(y.d, y.s, []api.Change{put("0000", text(4000, y.s.Log.Count))})
		expect(t, "several", z, ownCommit(y.d, y.s, []api.Change{put("0000", text(4000, y.s.Log.Count))}))
		y = z
	}
	if y.e != api.OK || y.s.Log.Count != 4 || len(y.s.Pairs) != 400 {
		t.Error(y.s.Log, len(y.s.Pairs), y.e)
	}
}

// P6.1: a transaction of as many bytes as a record has, and of one more.
func TestCommitLong(t *testing.T) {
	x := with(t, 400, many(2, 1))
	for i := range justFull(0) {
		full, over := justFull(0)[i], justFull(1)[i]
		got := commit(x.d, x.s, full)
		expect(t, fmt.Sprint(i, " of 6000 bytes"), got, ownCommit(x.d, x.s, full))
		if y := open(got.d); got.e != api.OK || y.e != api.OK || !slices.Equal(y.s.Pairs, ownDo(x.s.Pairs, full)) {
			t.Error(i, got.e, y.e)
		}
		expect(t, fmt.Sprint(i, " of 6001 bytes"), commit(x.d, x.s, over), answer{x.d, x.s, api.ErrLong})
	}
}

// P6.1: 400 pairs, and one more.
func TestCommitTooMany(t *testing.T) {
	x := with(t, 1000, many(399, 2))
	two := []api.Change{put("x", "1"), put("y", "1")}
	expect(t, "401", commit(x.d, x.s, two), answer{x.d, x.s, api.ErrFull})
	x = commit(x.d, x.s, two[:1])
	if x.e != api.OK || len(x.s.Pairs) != 400 {
		t.Fatal(x.e)
	}
	for _, d := range []api.Disk{x.d, fallen(x.d), armed(x.d, 0)} {
		expect(t, "401", commit(d, x.s, two[1:]), answer{d, x.s, api.ErrFull})
		expect(t, "401, one gone that isn't there", commit(d, x.s, []api.Change{put("y", "1"), gone("z")}), answer{d, x.s, api.ErrFull})
	}
	for _, l := range [][]api.Change{{put("x", "2")}, {gone("x"), put("y", "2")}, {put("y", "2"), gone("x")}, {put("y", "2"), put("z", "3"), gone("y"), gone("z")}} {
		got := commit(x.d, x.s, l)
		expect(t, fmt.Sprint(l), got, ownCommit(x.d, x.s, l))
		if got.e != api.OK || len(got.s.Pairs) != 400 {
			t.Error(l, len(got.s.Pairs), got.e)
		}
	}
}

// P6.1: what Commit refuses, which error comes first, and what stands beside it.
func TestCommitRefused(t *testing.T) {
	one := []api.Change{put("x", "1")}
	long := []api.Change{put("x", text(4096, 1)), put("y", text(4096, 1))}
	log := api.Log{Half: 1, Gen: 3, Used: 2, Count: 1}
	right := api.Store{Log: log, Pairs: many(400, 0)}
	some := []api.Disk{littered(20), fallen(littered(20)), armed(littered(20), 0)}
	for _, d := range some {
		for _, l := range [][]api.Change{nil, one, long, {put("", "")}} {
			for name, p := range wrongPairs() {
				s := api.Store{Log: log, Pairs: p}
				expect(t, name, commit(d, s, l), answer{d, s, api.ErrArg})
			}
			for _, x := range wrongLogs() {
				s := api.Store{Log: x, Pairs: many(2, 1)}
				expect(t, fmt.Sprint("wrong log ", x), commit(d, s, l), answer{d, s, api.ErrArg})
			}
			for i, d := range wrongDisks() {
				expect(t, fmt.Sprint("wrong disk ", i), commit(d, right, l), answer{d, right, api.ErrArg})
			}
		}
		for name, l := range wrongChanges() {
			expect(t, name, commit(d, right, l), answer{d, right, api.ErrArg})
		}
		expect(t, "long, and too many pairs", commit(d, right, long), answer{d, right, api.ErrLong})
		expect(t, "too many pairs", commit(d, right, one), answer{d, right, api.ErrFull})
		few := api.Store{Log: log}
		expect(t, "long, and no room", commit(d, few, long), answer{d, few, api.ErrLong})
		expect(t, "no room", commit(d, few, []api.Change{put("x", text(600, 1))}), answer{d, few, api.ErrFull})
	}
	for _, d := range some[1:] {
		few := api.Store{Log: log, Pairs: many(2, 1)}
		expect(t, "down", commit(d, few, one), answer{fallen(d), few, api.ErrDown})
		few.Log.Used = 10
		expect(t, "down where it is compacted", commit(d, few, one), answer{fallen(d), few, api.ErrDown})
	}
}

// P6.1: the last generation takes what has room; what hasn't comes too late.
func TestCommitLast(t *testing.T) {
	for _, d := range []api.Disk{littered(20), fallen(littered(20)), armed(littered(20), 0)} {
		s := api.Store{Log: api.Log{Gen: maxGen, Used: 8, Count: 2}, Pairs: many(2, 1)}
		small, great := []api.Change{put("x", "1")}, []api.Change{put("x", text(40, 1))}
		expect(t, "small", commit(d, s, small), ownCommit(d, s, small))
		expect(t, "great", commit(d, s, great), answer{d, s, api.ErrRange})
		huge := []api.Change{put("x", text(600, 1))}
		expect(t, "huge", commit(d, s, huge), answer{d, s, api.ErrFull})
	}
	d := fresh(20)
	s := api.Store{Log: api.Log{Half: 1, Gen: maxGen, Used: 8, Count: 2}}
	got := commit(d, s, []api.Change{put("x", "1")})
	if got.e != api.OK || got.s.Log != (api.Log{Half: 1, Gen: maxGen, Used: 10, Count: 3}) {
		t.Error(got.s, got.e)
	}
}

// P6.1: a step that is refused, but by a fall, leaves the disk and the store as they were handed in.
func TestStepRefused(t *testing.T) {
	x := with(t, 20, many(1, 1))
	d := deep(x.d)
	d.Loose = slices.Repeat([]api.Write{{At: 19}}, 100_000)
	l := []api.Change{put("x", text(40, 1))}
	for name, pair := range map[string][2]answer{"commit": {commit(d, x.s, l), ownCommit(d, x.s, l)}, "open": {open(d), ownOpen(d)}, "format": {format(d), ownFormat(d)}} {
		expect(t, name, pair[0], pair[1])
	}
	got := commit(d, x.s, l)
	expect(t, "commit", got, answer{d, x.s, got.e})
	if got.e != api.ErrArg {
		t.Error(got.e)
	}
}

// P6.1: what is handed in stays as it was, its spare room too; what is answered doesn't change with it.
func TestHandedIn(t *testing.T) {
	base := with(t, 40, many(5, 3))
	pairs := append(make([]api.Pair, 0, 50), base.s.Pairs...)
	changes := append(make([]api.Change, 0, 50), put("x", "1"), gone("0002"), put("0001", "2"), put("", ""))
	for _, fuse := range []int{-1, 0, 1, 2, 3, 20, 30} {
		for _, used := range []int{base.s.Log.Used, 19} {
			d := deep(armed(base.d, fuse))
			d.Loose = append(make([]api.Write, 0, 60), api.Write{At: 39, Data: sec{1}})
			was := deep(d)
			s := api.Store{Log: base.s.Log, Pairs: pairs}
			s.Log.Used = used
			for _, l := range [][]api.Change{changes[:3], changes} {
				answers := []answer{format(d), open(d), commit(d, s, l)}
				kv.Do(pairs, l)
				kv.Encode(l)
				kv.Right(d, s)
				kv.Snapshot(pairs)
				kv.Prefix(s, "00")
				same := sector.Same(d, was) && slices.Equal(pairs, many(5, 3)) && slices.Equal(changes, []api.Change{put("x", "1"), gone("0002"), put("0001", "2"), put("", "")})
				if !same || slices.ContainsFunc(pairs[5:50], func(p api.Pair) bool { return p != api.Pair{} }) || slices.ContainsFunc(changes[4:50], func(c api.Change) bool { return c != api.Change{} }) || slices.ContainsFunc(d.Loose[1:60], func(w api.Write) bool { return w != api.Write{} }) {
					t.Fatal("what was handed in has changed")
				}
				if x := answers[2]; x.e == api.OK {
					told, after := slices.Clone(x.s.Pairs), deep(x.d)
					for i := range pairs {
						pairs[i].Val = "spoilt"
					}
					commit(d, x.s, []api.Change{put("a", "b")})
					if !slices.Equal(x.s.Pairs, told) || !sector.Same(x.d, after) {
						t.Fatal("an answer has changed")
					}
					copy(pairs, many(5, 3))
				}
			}
		}
	}
	b := append(make([]byte, 0, 200), ownBytes(changes[:3])...)
	kv.Decode(b)
	if !bytes.Equal(b, ownBytes(changes[:3])) || slices.Max(b[len(b):200]) != 0 {
		t.Error("bytes that were handed in have changed")
	}
}
