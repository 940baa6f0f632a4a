package wal_test

import (
	"fmt"
	"math/rand"
	"testing"

	"escheat/api"
	"escheat/sector"
	"escheat/wal"
)

// job: a call, and what it does on the disk, deed by deed.
type job struct {
	name  string
	d     api.Disk
	l     api.Log // the one that is handed in; none of Format and Open
	call  func(d api.Disk) answer
	deeds []deed
	old   [][]byte // what is there ahead of it; nil: nothing
	young [][]byte // what is there behind it
}

func jobFormat(d api.Disk, list [][]byte) job {
	return job{name: "format", d: d, call: func(d api.Disk) answer { return format(d, list) }, deeds: formatting(len(d.Sectors), list), young: list}
}

func jobAppend(x answer, old [][]byte, b []byte) job {
	return job{name: "append", d: x.d, l: x.l, call: func(d api.Disk) answer { return add(d, x.l, b) }, deeds: appending(len(x.d.Sectors), x.l, b), old: old, young: append(deepList(old), b)}
}

func jobCompact(x answer, old, list [][]byte) job {
	return job{name: "compact", d: x.d, l: x.l, call: func(d api.Disk) answer { return compact(d, x.l, list) }, deeds: compacting(len(x.d.Sectors), x.l, list), old: old, young: list}
}

func jobOpen(x answer, old [][]byte) job {
	return job{name: "open", d: x.d, call: open, deeds: compacting(len(x.d.Sectors), x.l, old), old: old, young: old}
}

// jobs: each call, on logs in each half, of disks of so many sectors.
func jobs(n int) []job {
	one, two := texts(9), texts(1, 70)
	x := format(fresh(n), one)
	y := compact(x.d, x.l, two)
	l := []job{
		jobFormat(fresh(n), one), jobFormat(fresh(n), two), jobFormat(littered(n), texts(130)),
		jobAppend(x, one, text(1, 7)), jobAppend(x, one, text(70, 7)), jobAppend(y, two, text(64, 7)),
		jobCompact(x, one, texts(2, 3)), jobCompact(y, two, texts(65)), jobCompact(y, two, texts(1, 1, 1)),
		jobOpen(x, one), jobOpen(y, two),
	}
	if n >= 20 {
		l = append(l, jobCompact(x, one, texts(1, 64, 65, 128)), jobAppend(y, two, text(200, 7)), jobFormat(fresh(n), texts(70, 64, 65)))
	}
	return l
}

// P5.1: which sectors each call puts, in which order, and when it flushes: the disk of a fall at each of its deeds.
func TestDeeds(t *testing.T) {
	for _, n := range []int{14, 15, 20, 21} {
		for _, j := range jobs(n) {
			for fuse := range len(j.deeds) {
				d, e := sector.Arm(j.d, fuse)
				if e != api.OK {
					t.Fatal(e)
				}
				want, e := done(d, j.deeds)
				if e != api.ErrDown {
					t.Fatal(e)
				}
				expect(t, fmt.Sprint(j.name, " of ", n, ", fall at ", fuse), j.call(d), answer{d: want, l: j.l, e: api.ErrDown})
			}
			d, _ := sector.Arm(j.d, len(j.deeds))
			want, _ := done(d, j.deeds)
			got := j.call(d)
			if got.e != api.OK || got.d.Fuse != 0 || !sector.Same(got.d, want) {
				t.Error(j.name, n, "does other deeds:", got.e, got.d.Fuse)
			}
		}
	}
}

// P5.1: the deeds of records of several sectors, one by one.
func TestOrder(t *testing.T) {
	type step struct {
		at    int
		first byte
	}
	flush := step{at: -1}
	zero := func(from, to int) []step {
		var l []step
		for i := from; i < to; i++ {
			l = append(l, step{at: i})
		}
		return l
	}
	a, b := []byte{1, 65: 2}, []byte{3}
	x := format(fresh(17), [][]byte{a, b})
	for _, c := range []struct {
		name string
		d    api.Disk
		call func(d api.Disk) answer
		want []step
	}{
		{"format", fresh(17), func(d api.Disk) answer { return format(d, [][]byte{a, b}) },
			append(append([]step{{at: 8}}, zero(0, 8)...), flush, step{1, 1}, step{2, 0}, step{3, 'W'}, step{4, 3}, flush, step{0, 'W'}, flush)},
		{"append", x.d, func(d api.Disk) answer { return add(d, x.l, []byte{4, 64: 5, 65: 6}) },
			[]step{{6, 4}, {7, 5}, flush, {5, 'W'}, flush}},
		{"compact", x.d, func(d api.Disk) answer { return compact(d, x.l, [][]byte{b, a}) },
			append(zero(8, 16), flush, step{9, 3}, step{10, 'W'}, step{11, 1}, step{12, 0}, flush, step{8, 'W'}, flush)},
		{"open", x.d, open,
			append(zero(8, 16), flush, step{9, 1}, step{10, 0}, step{11, 'W'}, step{12, 3}, flush, step{8, 'W'}, flush)},
	} {
		loose := 0
		for i, s := range c.want {
			d, _ := sector.Arm(c.d, i+1)
			got := c.call(d).d
			if s == flush {
				loose = 0
			} else {
				loose++
			}
			if len(got.Loose) != loose {
				t.Fatal(c.name, "step", i, ":", len(got.Loose), "loose writes, not", loose)
			}
			if s != flush && (got.Loose[loose-1].At != s.at || got.Loose[loose-1].Data[0] != s.first) {
				t.Error(c.name, "step", i, ": sector", got.Loose[loose-1].At, "not", s.at)
			}
		}
	}
}

// masks: what may stay of so many writes: each choice of few, some of many.
func masks(loose int, r *rand.Rand) []uint64 {
	if loose <= 8 {
		l := make([]uint64, 1<<loose)
		for i := range l {
			l[i] = uint64(i)
		}
		return l
	}
	l := []uint64{0, ^uint64(0), 1, 2, 3, 1 << (loose - 1), 1<<(loose-1) - 1}
	for range 20 {
		l = append(l, r.Uint64())
	}
	return l
}

// finds: what Open finds, and, opened again, the same.
func finds(t *testing.T, what string, d api.Disk, lists ...[][]byte) [][]byte {
	t.Helper()
	x := open(d)
	if x.e == api.ErrNone {
		for _, l := range lists {
			if l == nil {
				return nil
			}
		}
	}
	if x.e != api.OK {
		t.Fatalf("%s: error %d", what, x.e)
	}
	y := open(x.d)
	if y.e != api.OK || !sameList(x.list, y.list) {
		t.Fatalf("%s: opened again, it finds other records: %d", what, y.e)
	}
	for _, l := range lists {
		if l != nil && sameList(x.list, l) {
			return l
		}
	}
	t.Fatalf("%s: neither the old records nor the new ones, but %d", what, len(x.list))
	return nil
}

// P5.2: a fall at each deed of each call, with whatever stays.
func TestFall(t *testing.T) {
	r := rand.New(rand.NewSource(1))
	for _, n := range []int{14, 15, 20, 21} {
		for _, j := range jobs(n) {
			for fuse := range len(j.deeds) + 1 {
				d, _ := sector.Arm(j.d, fuse)
				x := j.call(d)
				if x.e == api.OK != (fuse == len(j.deeds)) {
					t.Fatal(j.name, n, fuse, x.e)
				}
				for _, mask := range masks(len(x.d.Loose), r) {
					d, _ := sector.Start(x.d, mask)
					what := fmt.Sprint(j.name, " of ", n, ", fall at ", fuse, ", mask ", mask)
					if x.e == api.OK {
						finds(t, what, d, j.young)
					} else {
						finds(t, what, d, j.old, j.young)
					}
				}
			}
		}
	}
}

// P5.2: falls while it is opened, behind a fall of whatever came ahead.
func TestFallTwice(t *testing.T) {
	r := rand.New(rand.NewSource(2))
	for _, j := range jobs(14) {
		for fuse := range len(j.deeds) + 1 {
			armed, _ := sector.Arm(j.d, fuse)
			fell := j.call(armed)
			for _, mask := range masks(min(len(fell.d.Loose), 9), r) {
				d, _ := sector.Start(fell.d, mask)
				what := fmt.Sprint(j.name, ", fall at ", fuse, ", mask ", mask)
				there := finds(t, what, d, j.old, j.young)
				fallsOpening(t, what, d, there, r)
			}
		}
	}
}

// fallsOpening: Open falls at each of its deeds: what is there stays there.
func fallsOpening(t *testing.T, what string, d api.Disk, there [][]byte, r *rand.Rand) {
	t.Helper()
	for fuse := range 100 {
		armed, _ := sector.Arm(d, fuse)
		x := open(armed)
		if x.e != api.ErrDown {
			return
		}
		for range 3 {
			again, _ := sector.Start(x.d, r.Uint64())
			finds(t, fmt.Sprint(what, "; then a fall at ", fuse), again, there)
		}
	}
	t.Fatal("Open doesn't end")
}

// P5.2: a long story: records that are appended, others in place of all, and falls, one behind the other.
func TestStory(t *testing.T) {
	r := rand.New(rand.NewSource(3))
	for _, n := range []int{16, 31, 64, 257} {
		there := texts(1)
		x := format(littered(n), there)
		if x.e != api.OK {
			t.Fatal(x.e)
		}
		for step := range 400 {
			what := fmt.Sprint(n, " sectors, step ", step)
			fuse := -1
			if r.Intn(3) == 0 {
				fuse = r.Intn(n + 8)
			}
			x.d, _ = sector.Arm(x.d, fuse)
			next := append(deepList(there), text(1+r.Intn(150), step))
			if r.Intn(4) == 0 || wal.Takes(len(next[len(next)-1])) > wal.Room(x.d, x.l) {
				next = texts(1+r.Intn(100), 1+r.Intn(64))
				x = compact(x.d, x.l, next)
			} else {
				x = add(x.d, x.l, next[len(next)-1])
			}
			switch x.e {
			case api.OK:
				there = next
			case api.ErrDown:
				d, _ := sector.Start(x.d, r.Uint64())
				there = finds(t, what, d, there, next)
				x = open(d)
			default:
				t.Fatal(what, x.e)
			}
		}
		d, _ := sector.Start(x.d, 0)
		finds(t, "the end", d, there)
	}
}
