package kv_test

import (
	"fmt"
	"math/rand"
	"slices"
	"testing"

	"escheat/api"
	"escheat/sector"
)

// job: a call on a disk, the pairs that are there ahead of it (none of Format: there is no store), and behind it.
type job struct {
	name       string
	d          api.Disk
	call, own  func(d api.Disk) answer
	store      bool
	old, young []api.Pair
}

func jobFormat(d api.Disk) job {
	return job{name: "format", d: d, call: format, own: ownFormat}
}

func jobOpen(x answer) job {
	return job{name: "open", d: x.d, call: open, own: ownOpen, store: true, old: x.s.Pairs, young: x.s.Pairs}
}

func jobCommit(name string, x answer, l []api.Change) job {
	call := func(d api.Disk) answer { return commit(d, x.s, l) }
	own := func(d api.Disk) answer { return ownCommit(d, x.s, l) }
	return job{name: name, d: x.d, call: call, own: own, store: true, old: x.s.Pairs, young: ownDo(x.s.Pairs, l)}
}

// jobs: each call, on stores in each half, where there is room, and where there isn't (of disks of 14 to 21 sectors).
func jobs(t *testing.T, n int) []job {
	x := with(t, n, []api.Pair{pair("a", "1")})
	y := open(x.d)
	l := []api.Change{put("b", "2"), gone("a"), put("c", text(9, 1))}
	all := []job{jobFormat(fresh(n)), jobFormat(littered(n)), jobOpen(x), jobOpen(y)}
	for half, x := range []answer{x, y} {
		if x.s.Log.Half != half || x.e != api.OK {
			t.Fatal(x.s, x.e)
		}
		all = append(all, jobCommit("append", x, l))
		for x.s.Log.Used+2 <= n/2 {
			x = commit(x.d, x.s, []api.Change{put("a", fmt.Sprint(x.s.Log.Used))})
		}
		if x.s.Log.Half != half || x.e != api.OK {
			t.Fatal(x.s, x.e)
		}
		all = append(all, jobCommit("compact", x, l), jobOpen(x))
	}
	return all
}

// masks: what may stay of so many writes: each choice of few, some of many.
func masks(loose int, r *rand.Rand) []uint64 {
	if loose <= 8 {
		l := make([]uint64, 1<<loose)
		for i := range l {
			l[i] = uint64(i)
		}
		return l
	}
	l := []uint64{0, ^uint64(0), 1, 2, 1 << (loose - 1), 1<<(loose-1) - 1}
	for range 20 {
		l = append(l, r.Uint64())
	}
	return l
}

// finds: what Open finds, and, opened again, the same: the old pairs, or the young ones; no store at all, if there wasn't one.
func finds(t *testing.T, what string, d api.Disk, store bool, old, young []api.Pair) []api.Pair {
	t.Helper()
	x := open(d)
	if x.e == api.ErrNone && !store {
		return nil
	}
	if x.e != api.OK {
		t.Fatalf("%s: error %d", what, x.e)
	}
	if !slices.Equal(x.s.Pairs, old) && !slices.Equal(x.s.Pairs, young) {
		t.Fatalf("%s: neither the old pairs nor the young ones, but %s", what, short(x.s.Pairs))
	}
	y := open(x.d)
	if y.e != api.OK || !slices.Equal(y.s.Pairs, x.s.Pairs) {
		t.Fatalf("%s: opened again, it finds %s, error %d", what, short(y.s.Pairs), y.e)
	}
	return x.s.Pairs
}

// falls: a job, with a fall at each of its deeds and behind the last one, with whatever stays.
func falls(t *testing.T, j job, n int, r *rand.Rand, then func(what string, d api.Disk, store bool, there []api.Pair)) {
	t.Helper()
	for fuse := range 200 {
		what := fmt.Sprint(j.name, " of ", n, ", fall at ", fuse)
		armed, _ := sector.Arm(j.d, fuse)
		x := j.call(armed)
		expect(t, what, x, j.own(armed))
		store, old := j.store, j.old
		switch x.e {
		case api.OK:
			store, old = true, j.young
		case api.ErrDown:
		default:
			t.Fatal(what, x.e)
		}
		for _, mask := range masks(len(x.d.Loose), r) {
			d, _ := sector.Start(x.d, mask)
			there := finds(t, fmt.Sprint(what, ", mask ", mask), d, store, old, j.young)
			then(fmt.Sprint(what, ", mask ", mask), d, store, there)
		}
		if x.e == api.OK {
			if fuse < 4 {
				t.Error(what, "is too soon")
			}
			return
		}
	}
	t.Fatal(j.name, "doesn't end")
}

// P6.2: a fall at each put and each flush of each call.
func TestFall(t *testing.T) {
	r := rand.New(rand.NewSource(1))
	for _, n := range []int{14, 15, 20, 21} {
		for _, j := range jobs(t, n) {
			falls(t, j, n, r, func(string, api.Disk, bool, []api.Pair) {})
		}
	}
}

// P6.2: falls while it is opened, behind a fall of whatever came ahead.
func TestFallTwice(t *testing.T) {
	r := rand.New(rand.NewSource(2))
	for _, j := range jobs(t, 14) {
		falls(t, j, 14, r, func(what string, d api.Disk, store bool, there []api.Pair) {
			fuse := r.Intn(14)
			d, _ = sector.Arm(d, fuse)
			x := open(d)
			if x.e != api.ErrDown {
				return
			}
			d, _ = sector.Start(x.d, r.Uint64())
			finds(t, fmt.Sprint(what, "; then a fall at ", fuse), d, store, there, there)
		})
	}
}

// P6.2: both outcomes of a fall are seen: all of a transaction, or nothing of it.
func TestAllOrNothing(t *testing.T) {
	x := with(t, 20, []api.Pair{pair("a", "1"), pair("b", "2")})
	young := []api.Pair{pair("b", "3"), pair("c", "4")}
	l := []api.Change{gone("a"), put("b", text(40, 1)), put("b", "3"), put("c", "4")}
	// Its deeds: two sectors, a flush, the mark, a flush. y falls at the mark, z at the last flush.
	armed, _ := sector.Arm(x.d, 3)
	y := commit(armed, x.s, l)
	if y.e != api.ErrDown || len(y.d.Loose) != 0 {
		t.Fatal(len(y.d.Loose), y.e)
	}
	armed, _ = sector.Arm(x.d, 4)
	z := commit(armed, x.s, l)
	if z.e != api.ErrDown || len(z.d.Loose) != 1 {
		t.Fatal(len(z.d.Loose), z.e)
	}
	for i, c := range []struct {
		d    api.Disk
		mask uint64
		want []api.Pair
	}{{y.d, 0, x.s.Pairs}, {y.d, 255, x.s.Pairs}, {z.d, 0, x.s.Pairs}, {z.d, 1, young}} {
		d, _ := sector.Start(c.d, c.mask)
		if got := open(d); got.e != api.OK || !slices.Equal(got.s.Pairs, c.want) {
			t.Error(i, short(got.s.Pairs), got.e)
		}
	}
}

// P6.2: a long story: transactions that are appended or make the log be compacted, and falls, one behind the other, while it is opened, too.
func TestStory(t *testing.T) {
	r := rand.New(rand.NewSource(3))
	for _, n := range []int{16, 31, 64, 257} {
		x := format(littered(n))
		fell, kept := 0, 0
		for step := range 500 {
			what := fmt.Sprint(n, " sectors, step ", step)
			fuse := -1
			if r.Intn(2) == 0 {
				fuse = r.Intn(8)
				if r.Intn(3) == 0 {
					fuse = r.Intn(n + 8)
				}
			}
			d, _ := sector.Arm(x.d, fuse)
			l := someChanges(r, r.Intn(4), n/4)
			old := x.s.Pairs
			y := commit(d, x.s, l)
			if y.e == api.ErrFull {
				l = none(old)
				y = commit(y.d, x.s, l)
			}
			switch y.e {
			case api.OK:
				x = y
				continue
			case api.ErrDown:
			default:
				t.Fatal(what, y.e)
			}
			fell++
			d, _ = sector.Start(y.d, r.Uint64())
			there := finds(t, what, d, true, old, ownDo(old, l))
			if slices.Equal(there, old) {
				kept++
			}
			for y.e != api.OK {
				d, _ = sector.Arm(d, r.Intn(2*n))
				y = open(d)
				d, _ = sector.Start(y.d, r.Uint64())
				finds(t, what+", opened", d, true, there, there)
			}
			x = open(d)
			if x.e != api.OK || !slices.Equal(x.s.Pairs, there) {
				t.Fatal(what, short(x.s.Pairs), x.e)
			}
		}
		if fell < 50 || kept < 10 || fell-kept < 3 {
			t.Error(n, "sectors: fell", fell, "kept", kept)
		}
	}
}
