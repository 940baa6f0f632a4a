package wal_test

import (
	"fmt"
	"hash/crc32"
	"math"
	"math/rand"
	"slices"
	"testing"

	"escheat/api"
	"escheat/sector"
	"escheat/wal"
)

// P5.1: Takes, of each size and far beyond.
func TestTakes(t *testing.T) {
	for n, want := range map[int]int{1: 2, 64: 2, 65: 3, 128: 3, 129: 4, 6000: 95} {
		if got := wal.Takes(n); got != want {
			t.Errorf("%d bytes take %d, not %d", n, got, want)
		}
	}
	for n := -70; n < 6200; n++ {
		if got := wal.Takes(n); got != ownTakes(n) {
			t.Errorf("%d bytes take %d, not %d", n, got, ownTakes(n))
		}
	}
	for _, n := range []int{math.MinInt, math.MinInt + 1, math.MaxInt, math.MaxInt - 63, 1 << 32, 1<<32 + 1} {
		if got := wal.Takes(n); got != 0 {
			t.Errorf("%d bytes take %d, not 0", n, got)
		}
	}
}

// wrongDisks: disks that may not be.
func wrongDisks() []api.Disk {
	low, high, many := fresh(20), fresh(20), fresh(20)
	low.Fuse, high.Fuse = -2, maxGen+1
	many.Loose = make([]api.Write, 100_001)
	stray := fresh(20)
	stray.Loose = []api.Write{{At: 20}}
	down := deep(stray)
	down.Down = true
	return []api.Disk{low, high, many, stray, down, {Sectors: make([]sec, 4097), Fuse: -1}}
}

// P5.1: Right and Room, at each limit and beyond.
func TestRight(t *testing.T) {
	ends := []int{math.MinInt, -1, 0, 1, 2, 3, 4, 5, 9, 10, 11, 2047, 2048, 2049, maxGen - 1, maxGen, maxGen + 1, math.MaxInt}
	for _, n := range []int{0, 1, 2, 3, 4, 5, 8, 9, 20, 21, 4095, 4096} {
		d := fresh(n)
		for _, half := range []int{math.MinInt, -1, 0, 1, 2, math.MaxInt} {
			for _, gen := range []int{math.MinInt, -1, 0, 1, 2, maxGen, maxGen + 1, math.MaxInt} {
				for _, used := range ends {
					for _, count := range ends {
						l := api.Log{Half: half, Gen: gen, Used: used, Count: count}
						right := (half == 0 || half == 1) && 1 <= gen && gen <= maxGen && 2 <= used && used <= n/2 && 1 <= count && count <= used
						room := 0
						if right {
							room = n/2 - used
						}
						if got := wal.Right(d, l); got != right {
							t.Fatalf("%d sectors, %v: right is %v", n, l, got)
						}
						if got := wal.Room(d, l); got != room {
							t.Fatalf("%d sectors, %v: room %d, not %d", n, l, got, room)
						}
					}
				}
			}
		}
	}
	l := api.Log{Gen: 1, Used: 2, Count: 1}
	for i, d := range wrongDisks() {
		if wal.Right(d, l) || wal.Room(d, l) != 0 {
			t.Error("wrong disk", i, "has a log")
		}
	}
	down := littered(20)
	down.Down, down.Fuse = true, 0
	if !wal.Right(down, l) || wal.Room(down, l) != 8 {
		t.Error("a disk that is Down has no log")
	}
}

// P5.1: the chapter's example.
func TestExample(t *testing.T) {
	d, e := sector.New(8)
	if e != api.OK {
		t.Fatal(e)
	}
	d, l, e := wal.Format(d, [][]byte{[]byte("abc")})
	if e != api.OK || l != (api.Log{Gen: 1, Used: 2, Count: 1}) {
		t.Fatal(l, e)
	}
	if wal.Takes(70) != 3 || wal.Room(d, l) != 2 {
		t.Error(wal.Takes(70), wal.Room(d, l))
	}
	expect(t, "append of 70 bytes", add(d, l, text(70, 1)), answer{d: d, l: l, e: api.ErrFull})
	first := sec([]byte("WLOG" + "\x00\x00\x00\x00\x00\x00\x00\x01" + "\x00\x00\x00\x00\x00\x00\x00\x00" + "\x00\x00\x00\x00\x00\x00\x00\x03" + "\x00\x00\x00\x00\x35\x24\x41\xc2" + "\x00\x00\x00\x00\x00\x00\x00\x00\x00\x00\x00\x00\x00\x00\x00\x00\x00\x00\x00\x00\x00\x00\x00\x00\x00\x00\x00\x00"))
	if d.Sectors[0] != first {
		t.Errorf("the mark is %q", d.Sectors[0])
	}
	if d.Sectors[1] != (sec{'a', 'b', 'c'}) {
		t.Errorf("the record is %q", d.Sectors[1])
	}
}

// lists: records that take so many sectors in all.
func lists() map[int][][]byte {
	full := make([][]byte, 1024)
	for i := range full {
		full[i] = text(1+i%64, i)
	}
	return map[int][][]byte{
		2:    texts(1),
		4:    texts(64, 1),
		5:    texts(1, 65),
		9:    texts(65, 129, 1),
		95:   texts(6000),
		97:   texts(6000, 3),
		2048: full,
	}
}

// P5.1: Format, on disks in which the records have just room, and in which a sector is missing.
func TestFormat(t *testing.T) {
	for takes, list := range lists() {
		for _, n := range []int{2 * takes, 2*takes + 1, 2*takes + 2, 2*takes + 7} {
			if n > api.MaxSectors {
				continue
			}
			d := littered(n)
			want, _ := done(d, formatting(n, list))
			got := format(d, list)
			expect(t, fmt.Sprint("format of ", n), got, answer{d: want, l: api.Log{Gen: 1, Used: takes, Count: len(list)}})
			if wal.Room(got.d, got.l) != n/2-takes || !wal.Right(got.d, got.l) {
				t.Error(n, "room", wal.Room(got.d, got.l))
			}
		}
		for _, n := range []int{2*takes - 1, 2*takes - 2, 0, 1, 2, 3} {
			if n/2 < takes {
				d := littered(n)
				expect(t, fmt.Sprint("format of ", n), format(d, list), answer{d: d, e: api.ErrFull})
			}
		}
	}
}

// P5.1: Format puts 0 where a log was: the sectors of half 0, and the first one of half 1.
func TestFormatAnew(t *testing.T) {
	d := fresh(21)
	for _, x := range []answer{format(d, texts(100, 200)), open(format(d, texts(100, 200)).d)} {
		got := format(x.d, texts(3))
		if got.e != api.OK {
			t.Fatal(got.e)
		}
		for i, s := range got.d.Sectors {
			want := sec{}
			switch {
			case i == 0:
				want = ownMark(1, 0, text(3, 1))
			case i == 1:
				copy(want[:], text(3, 1))
			case i > 10:
				want = x.d.Sectors[i]
			}
			if s != want {
				t.Error("sector", i)
			}
		}
		again := open(got.d)
		if again.e != api.OK || !sameList(again.list, texts(3)) || again.l != (api.Log{Half: 1, Gen: 2, Used: 2, Count: 1}) {
			t.Error(again.l, again.e)
		}
	}
}

// wrongLists: records that may not be laid.
func wrongLists() [][][]byte {
	return [][][]byte{
		nil, {}, {nil}, {{}}, {text(6001, 1)}, {text(1, 1), nil}, {nil, text(1, 1)},
		{text(1, 1), text(6001, 1), text(1, 1)}, {text(6000, 1), text(6000, 2), {}}, {text(12000, 1)},
	}
}

func armed(d api.Disk, fuse int) api.Disk {
	d.Fuse = fuse
	return d
}

func fallen(d api.Disk) api.Disk {
	d.Down = true
	return d
}

// P5.1: what Format refuses, and which error comes first.
func TestFormatRefused(t *testing.T) {
	for i, d := range wrongDisks() {
		for _, list := range [][][]byte{texts(1), nil, texts(6000)} {
			expect(t, fmt.Sprint("wrong disk ", i), format(d, list), answer{d: d, e: api.ErrArg})
		}
	}
	for i, list := range wrongLists() {
		for _, d := range []api.Disk{littered(20), fallen(littered(20)), armed(littered(20), 0), littered(0), littered(1)} {
			expect(t, fmt.Sprint("wrong list ", i), format(d, list), answer{d: d, e: api.ErrArg})
		}
	}
	for _, d := range []api.Disk{fallen(littered(20)), armed(littered(20), 0), fallen(armed(littered(20), 5))} {
		expect(t, "full", format(d, texts(6000)), answer{d: d, e: api.ErrFull})
		expect(t, "down", format(d, texts(576)), answer{d: fallen(d), e: api.ErrDown})
	}
	expect(t, "no sector", format(fallen(littered(0)), texts(1)), answer{d: fallen(littered(0)), e: api.ErrFull})
}

// P5.1: Append, until a log is full to the last sector.
func TestAppend(t *testing.T) {
	for _, n := range []int{2 * 205, 2*205 + 1} {
		for _, half := range []int{0, 1} {
			x := format(fresh(n), texts(7))
			if half == 1 {
				x = open(x.d)
			}
			want := texts(7)
			for i, size := range []int{1, 64, 65, 6000, 128, 6000 - 64*3} {
				b := text(size, 50+i)
				after, _ := done(x.d, appending(n, x.l, b))
				l := x.l
				l.Used += ownTakes(size)
				l.Count++
				got := add(x.d, x.l, b)
				expect(t, fmt.Sprint("append ", i), got, answer{d: after, l: l})
				x = got
				want = append(want, b)
			}
			if x.l.Half != half || x.l.Used != 2+2+2+3+95+3+92 || wal.Room(x.d, x.l) != 6 {
				t.Fatal(x.l)
			}
			refused := text(321, 9)
			expect(t, "append of 7 sectors", add(x.d, x.l, refused), answer{d: x.d, l: x.l, e: api.ErrFull})
			x = add(x.d, x.l, refused[:320])
			if x.e != api.OK || wal.Room(x.d, x.l) != 0 {
				t.Fatal(x.l, x.e)
			}
			expect(t, "append of 1 byte", add(x.d, x.l, refused[:1]), answer{d: x.d, l: x.l, e: api.ErrFull})
			again := open(x.d)
			if again.e != api.OK || !sameList(again.list, append(want, refused[:320])) || again.l != (api.Log{Half: 1 - half, Gen: x.l.Gen + 1, Used: 205, Count: 8}) {
				t.Error(again.l, again.e)
			}
		}
	}
}

// P5.1: Append and Compact hang on the log that is handed in alone, whatever is on the disk; a generation may be 2^40.
func TestAnyLog(t *testing.T) {
	for _, n := range []int{20, 21} {
		d := littered(n)
		for _, l := range []api.Log{{Gen: 1, Used: 2, Count: 1}, {Half: 1, Gen: maxGen, Used: 8, Count: 8}, {Gen: maxGen - 1, Used: 7, Count: 2}, {Half: 1, Gen: 77, Used: 4, Count: 3}} {
			after, _ := done(d, appending(n, l, text(50, 1)))
			more := l
			more.Used += 2
			more.Count++
			expect(t, "append", add(d, l, text(50, 1)), answer{d: after, l: more})
			list := texts(1, 65, 128)
			if l.Gen < maxGen {
				after, _ = done(d, compacting(n, l, list))
				expect(t, "compact", compact(d, l, list), answer{d: after, l: api.Log{Half: 1 - l.Half, Gen: l.Gen + 1, Used: 8, Count: 3}})
			}
		}
	}
}

// wrongLogs: logs that may not be on a disk of 20 sectors.
func wrongLogs() []api.Log {
	return []api.Log{
		{},
		{Half: 2, Gen: 1, Used: 2, Count: 1}, {Half: -1, Gen: 1, Used: 2, Count: 1},
		{Used: 2, Count: 1}, {Gen: maxGen + 1, Used: 2, Count: 1}, {Gen: -1, Used: 2, Count: 1},
		{Gen: 1, Used: 1, Count: 1}, {Gen: 1, Used: 11, Count: 1}, {Gen: 1, Used: -2, Count: -3},
		{Gen: 1, Used: 2}, {Gen: 1, Used: 2, Count: 3}, {Gen: 1, Used: 2, Count: -1},
	}
}

// P5.1: what Append refuses, and which error comes first.
func TestAppendRefused(t *testing.T) {
	l := api.Log{Gen: 1, Used: 2, Count: 1}
	for i, d := range wrongDisks() {
		expect(t, fmt.Sprint("wrong disk ", i), add(d, l, text(1, 1)), answer{d: d, l: l, e: api.ErrArg})
	}
	some := []api.Disk{littered(20), fallen(littered(20)), armed(littered(20), 0)}
	for _, d := range some {
		for _, l := range wrongLogs() {
			for _, size := range []int{0, 1, 6000} {
				expect(t, fmt.Sprint("wrong log ", l), add(d, l, text(size, 1)), answer{d: d, l: l, e: api.ErrArg})
			}
		}
		for _, b := range [][]byte{nil, {}, text(6001, 1), text(20000, 1)} {
			expect(t, fmt.Sprint("record of ", len(b)), add(d, l, b), answer{d: d, l: l, e: api.ErrArg})
		}
		expect(t, "full", add(d, l, text(449, 1)), answer{d: d, l: l, e: api.ErrFull})
	}
	for _, d := range some[1:] {
		expect(t, "down", add(d, l, text(448, 1)), answer{d: fallen(d), l: l, e: api.ErrDown})
	}
	for _, n := range []int{0, 1, 2, 3} {
		expect(t, "no room for a log", add(fresh(n), l, text(1, 1)), answer{d: fresh(n), l: l, e: api.ErrArg})
	}
}

// P5.1: Compact, from each half, of records that have just room.
func TestCompact(t *testing.T) {
	for _, n := range []int{24, 25} {
		x := format(littered(n), texts(300, 65))
		for i, list := range [][][]byte{texts(1), texts(65, 64, 1, 64, 65), texts(704), texts(2, 2, 2, 2, 2, 2), texts(5)} {
			after, _ := done(x.d, compacting(n, x.l, list))
			got := compact(x.d, x.l, list)
			expect(t, fmt.Sprint("compact ", i), got, answer{d: after, l: logOf(1-x.l.Half, x.l.Gen+1, list)})
			again := open(got.d)
			if again.e != api.OK || !sameList(again.list, list) {
				t.Error(i, again.e)
			}
			x = got
		}
	}
}

// P5.1: what Compact refuses, and which error comes first.
func TestCompactRefused(t *testing.T) {
	l := api.Log{Gen: 7, Used: 2, Count: 1}
	last := api.Log{Half: 1, Gen: maxGen, Used: 2, Count: 1}
	for i, d := range wrongDisks() {
		expect(t, fmt.Sprint("wrong disk ", i), compact(d, l, texts(1)), answer{d: d, l: l, e: api.ErrArg})
	}
	some := []api.Disk{littered(20), fallen(littered(20)), armed(littered(20), 0)}
	for _, d := range some {
		for _, l := range wrongLogs() {
			for _, list := range [][][]byte{nil, texts(1), texts(6000)} {
				expect(t, fmt.Sprint("wrong log ", l), compact(d, l, list), answer{d: d, l: l, e: api.ErrArg})
			}
		}
		for i, list := range wrongLists() {
			expect(t, fmt.Sprint("wrong list ", i), compact(d, l, list), answer{d: d, l: l, e: api.ErrArg})
			expect(t, fmt.Sprint("wrong list ", i, ", last"), compact(d, last, list), answer{d: d, l: last, e: api.ErrArg})
		}
		for _, list := range [][][]byte{texts(577), texts(1, 1, 1, 1, 65), texts(6000)} {
			expect(t, "full", compact(d, l, list), answer{d: d, l: l, e: api.ErrFull})
			expect(t, "full, last", compact(d, last, list), answer{d: d, l: last, e: api.ErrFull})
		}
		expect(t, "last", compact(d, last, texts(576)), answer{d: d, l: last, e: api.ErrRange})
	}
	for _, d := range some[1:] {
		expect(t, "down", compact(d, l, texts(576)), answer{d: fallen(d), l: l, e: api.ErrDown})
	}
}

// twoHalves: a disk of 20 or 21 sectors with a log in each half, the greater generation in half 0 or 1.
func twoHalves(n, greater int) api.Disk {
	x := format(fresh(n), texts(70, 9))
	x = compact(x.d, x.l, texts(3, 64))
	x = add(x.d, x.l, text(65, 5))
	if greater == 0 {
		x = compact(x.d, x.l, texts(10, 100))
		x = add(x.d, x.l, text(128, 5))
	}
	return x.d
}

// P5.1: Open of what there is, and of what there isn't.
func TestOpen(t *testing.T) {
	for _, n := range []int{20, 21} {
		expect(t, "half 1", open(twoHalves(n, 1)), answer2(ownOpen(twoHalves(n, 1))))
		expect(t, "half 0", open(twoHalves(n, 0)), answer2(ownOpen(twoHalves(n, 0))))
		got := open(twoHalves(n, 0))
		if got.e != api.OK || got.l != (api.Log{Half: 1, Gen: 4, Used: 8, Count: 3}) || !sameList(got.list, [][]byte{text(10, 1), text(100, 2), text(128, 5)}) {
			t.Error(got.l, got.e)
		}
		got = open(twoHalves(n, 1))
		if got.e != api.OK || got.l != (api.Log{Half: 0, Gen: 3, Used: 7, Count: 3}) || !sameList(got.list, [][]byte{text(3, 1), text(64, 2), text(65, 5)}) {
			t.Error(got.l, got.e)
		}
		expect(t, "down", open(fallen(twoHalves(n, 1))), answer{d: fallen(twoHalves(n, 1)), e: api.ErrDown})
		expect(t, "falls", open(armed(twoHalves(n, 1), 0)), answer{d: fallen(armed(twoHalves(n, 1), 0)), e: api.ErrDown})
	}
	for i, d := range wrongDisks() {
		expect(t, fmt.Sprint("wrong disk ", i), open(d), answer{d: d, e: api.ErrArg})
	}
	for _, n := range []int{0, 1, 2, 3, 4, 20, 4096} {
		for _, d := range []api.Disk{littered(n), armed(littered(n), 0)} {
			expect(t, fmt.Sprint("none of ", n), open(d), answer{d: d, e: api.ErrNone})
		}
		expect(t, fmt.Sprint("down, none of ", n), open(fallen(littered(n))), answer{d: fallen(littered(n)), e: api.ErrDown})
	}
}

func answer2(d api.Disk, l api.Log, list [][]byte, e api.Errno) answer { return answer{d, l, list, e} }

// P5.1: Open sees the view: what is loose counts.
func TestOpenLoose(t *testing.T) {
	whole := twoHalves(21, 0)
	d := fresh(21)
	for i, s := range whole.Sectors {
		d.Loose = append(d.Loose, api.Write{At: i, Data: sec(text(64, i))}, api.Write{At: i, Data: s})
	}
	got := open(d)
	expect(t, "loose", got, answer2(ownOpen(d)))
	if got.e != api.OK || len(got.list) != 3 {
		t.Error(got.e, got.list)
	}
	damaged := deep(whole)
	damaged.Loose = []api.Write{{At: 1, Data: sec{1}}}
	expect(t, "loose damage", open(damaged), answer{d: damaged, e: api.ErrSum})
	gone := deep(whole)
	gone.Loose = []api.Write{{At: 0}}
	if got := open(gone); got.e != api.OK || got.l.Gen != 3 {
		t.Error("loose loss", got.l, got.e)
	}
}

// P5.1: Open of marks and records one by one, that may be or may not.
func TestOpenDamaged(t *testing.T) {
	a, b := text(70, 1), text(64, 2)
	sums := func(b []byte) uint64 { return uint64(crc32.ChecksumIEEE(b)) }
	// The second mark of a log of a, b in half 0 of 20 sectors is sector 3.
	second := func(m sec) func(d api.Disk) { return func(d api.Disk) { d.Sectors[3] = m } }
	first := func(m sec) func(d api.Disk) { return func(d api.Disk) { d.Sectors[0] = m } }
	byteAt := func(at, i int, x byte) func(d api.Disk) { return func(d api.Disk) { d.Sectors[at][i] ^= x } }
	for _, x := range []struct {
		name   string
		damage func(d api.Disk)
		found  int
		e      api.Errno
	}{
		{"nothing", func(api.Disk) {}, 2, api.OK},
		{"another word", byteAt(0, 3, 1), 0, api.ErrNone},
		{"a byte behind the numbers", byteAt(0, 36, 1), 0, api.ErrNone},
		{"the last byte", byteAt(0, 63, 128), 0, api.ErrNone},
		{"a length of 0", first(rawMark(1, 0, 0, 0)), 0, api.ErrNone},
		{"a length of 6001", first(rawMark(1, 0, 6001, sums(a))), 0, api.ErrNone},
		{"a length of 2^62 + 1", first(rawMark(1, 0, 1<<62+1, sums(a))), 0, api.ErrNone},
		{"a length of 2^64 - 1", first(rawMark(1, 0, math.MaxUint64, sums(a))), 0, api.ErrNone},
		{"a length beyond the half", first(rawMark(1, 0, 577, sums(a))), 0, api.ErrNone},
		{"another length", first(rawMark(1, 0, 71, sums(a))), 0, api.ErrSum},
		{"a length up to the half's end", first(rawMark(1, 0, 576, sums(a))), 0, api.ErrSum},
		{"another sum", first(rawMark(1, 0, 70, sums(a)^1)), 0, api.ErrSum},
		{"a sum of 2^32 - 1", first(rawMark(1, 0, 70, 1<<32-1)), 0, api.ErrSum},
		{"a sum of 2^32", first(rawMark(1, 0, 70, 1<<32)), 0, api.ErrNone},
		{"a sum of 2^32 more", first(rawMark(1, 0, 70, 1<<32+sums(a))), 0, api.ErrNone},
		{"a sum of 2^63 more", first(rawMark(1, 0, 70, 1<<63+sums(a))), 0, api.ErrNone},
		{"generation 0", first(rawMark(0, 0, 70, sums(a))), 0, api.ErrNone},
		{"generation 2", first(rawMark(2, 0, 70, sums(a))), 1, api.OK},
		{"generation 2^40", first(rawMark(maxGen, 0, 70, sums(a))), 0, api.ErrRange},
		{"generation 2^40, another sum", first(rawMark(maxGen, 0, 70, sums(a)+1)), 0, api.ErrSum},
		{"generation 2^40 + 1", first(rawMark(maxGen+1, 0, 70, sums(a))), 0, api.ErrNone},
		{"generation 2^63", first(rawMark(1<<63, 0, 70, sums(a))), 0, api.ErrNone},
		{"number 1", first(rawMark(1, 1, 70, sums(a))), 0, api.ErrNone},
		{"number 2^63", first(rawMark(1, 1<<63, 70, sums(a))), 0, api.ErrNone},
		{"a byte of the record", byteAt(1, 0, 1), 0, api.ErrSum},
		{"the record's last byte", byteAt(2, 5, 1), 0, api.ErrSum},
		{"a byte behind the record", byteAt(2, 6, 1), 2, api.OK},
		{"second: another word", byteAt(3, 0, 1), 1, api.OK},
		{"second: the last byte", byteAt(3, 63, 1), 1, api.OK},
		{"second: number 0", second(rawMark(1, 0, 64, sums(b))), 1, api.OK},
		{"second: number 2", second(rawMark(1, 2, 64, sums(b))), 1, api.OK},
		{"second: generation 2", second(rawMark(2, 1, 64, sums(b))), 1, api.OK},
		{"second: generation 0", second(rawMark(0, 1, 64, sums(b))), 1, api.OK},
		{"second: generation 2^40 + 1", second(rawMark(maxGen+1, 1, 64, sums(b))), 1, api.OK},
		{"second: a length of 0", second(rawMark(1, 1, 0, 0)), 1, api.OK},
		{"second: a length of 6001", second(rawMark(1, 1, 6001, 0)), 1, api.OK},
		{"second: a length beyond the half", second(rawMark(1, 1, 385, 0)), 1, api.OK},
		{"second: a length up to the half's end", second(rawMark(1, 1, 384, 0)), 0, api.ErrSum},
		{"second: another length", second(rawMark(1, 1, 63, sums(b))), 0, api.ErrSum},
		{"second: another sum", second(rawMark(1, 1, 64, sums(b)+1)), 0, api.ErrSum},
		{"second: a sum of 2^32 more", second(rawMark(1, 1, 64, 1<<32+sums(b))), 1, api.OK},
		{"second: a byte of the record", byteAt(4, 63, 4), 0, api.ErrSum},
		{"a third one", func(d api.Disk) { d.Sectors[5] = ownMark(1, 2, d.Sectors[6][:]) }, 3, api.OK},
		{"a third one behind a gap", func(d api.Disk) { d.Sectors[6] = ownMark(1, 2, d.Sectors[7][:]) }, 2, api.OK},
		{"a last mark without a record", func(d api.Disk) {
			d.Sectors[5] = ownMark(1, 2, d.Sectors[6][:])
			d.Sectors[7] = ownMark(1, 3, d.Sectors[8][:])
			d.Sectors[9] = ownMark(1, 4, d.Sectors[10][:])
		}, 4, api.OK},
	} {
		d := format(fresh(20), [][]byte{a, b}).d
		x.damage(d)
		got := open(d)
		expect(t, x.name, got, answer2(ownOpen(d)))
		if got.e != x.e || len(got.list) != x.found {
			t.Errorf("%s: %d records, error %d, not %d, %d", x.name, len(got.list), got.e, x.found, x.e)
		}
	}
}

// P5.1: which half Open takes.
func TestOpenHalves(t *testing.T) {
	for _, n := range []int{20, 21} {
		for _, x := range []struct {
			gen0, gen1 int
			found      byte
			e          api.Errno
		}{
			{5, 5, 0, api.OK}, {5, 6, 1, api.OK}, {6, 5, 0, api.OK}, {0, 1, 1, api.OK}, {1, 0, 0, api.OK}, {0, 0, 0, api.ErrNone},
			{1, maxGen - 1, 1, api.OK}, {maxGen - 1, 1, 0, api.OK}, {maxGen, 3, 0, api.ErrRange}, {3, maxGen, 1, api.ErrRange}, {maxGen, maxGen, 0, api.ErrRange},
			{3, maxGen + 1, 0, api.OK}, {maxGen + 1, 3, 1, api.OK},
		} {
			d := fresh(n)
			for half, gen := range []int{x.gen0, x.gen1} {
				b := []byte{byte(half), 9}
				d.Sectors[half*10] = ownMark(gen, 0, b)
				d.Sectors[half*10+1] = sec(append(b, make([]byte, 62)...))
			}
			name := fmt.Sprint(n, " sectors, generations ", x.gen0, ", ", x.gen1)
			got := open(d)
			expect(t, name, got, answer2(ownOpen(d)))
			if got.e != x.e || got.e == api.OK && got.list[0][0] != x.found {
				t.Error(name, got.e, got.list)
			}
			if x.e != api.ErrNone {
				d.Sectors[int(x.found)*10+1][0] ^= 2
				expect(t, name+", damaged", open(d), answer{d: d, e: api.ErrSum})
				d.Sectors[int(x.found)*10+1][0] ^= 2
				d.Sectors[int(1-x.found)*10+1][0] ^= 2
				expect(t, name+", the other damaged", open(d), answer2(ownOpen(d)))
			}
		}
	}
}

// P5.1: Open of each mark with one bit another one, and of sectors that chance has changed.
func TestOpenAnything(t *testing.T) {
	for greater := range 2 {
		base := twoHalves(21, greater)
		for _, at := range []int{0, 3, 4, 5, 7, 10, 12, 14, 20} {
			for bit := range 8 * api.Sector {
				d := deep(base)
				d.Sectors[at][bit/8] ^= 1 << (bit % 8)
				expect(t, fmt.Sprint("half ", greater, ", sector ", at, ", bit ", bit), open(d), answer2(ownOpen(d)))
			}
		}
	}
	r := rand.New(rand.NewSource(5))
	for i := range 4000 {
		d := deep(twoHalves(20+r.Intn(2), r.Intn(2)))
		for range 1 + r.Intn(3) {
			a, b := r.Intn(len(d.Sectors)), r.Intn(len(d.Sectors))
			switch r.Intn(4) {
			case 0:
				d.Sectors[a] = d.Sectors[b]
			case 1:
				d.Sectors[a] = sec{}
			case 2:
				d.Sectors[a] = ownMark(1+r.Intn(4), r.Intn(3), text(1+r.Intn(200), i))
			default:
				d.Sectors[a] = ownMark(1+r.Intn(4), r.Intn(3), d.Sectors[(a+1)%len(d.Sectors)][:])
			}
		}
		expect(t, fmt.Sprint("chance ", i), open(d), answer2(ownOpen(d)))
	}
}

// P5.1: what is wrong with a step, but a fall, leaves the disk and the log as they were handed in.
func TestStepRefused(t *testing.T) {
	base := format(fresh(20), texts(5))
	d := deep(base.d)
	d.Loose = slices.Repeat([]api.Write{{At: 19}}, 100_000)
	for what, got := range map[string]answer{"format": format(d, texts(70)), "append": add(d, base.l, text(70, 1)), "compact": compact(d, base.l, texts(70)), "open": open(d)} {
		if got.e == api.OK {
			continue
		}
		l := base.l
		if what == "format" || what == "open" {
			l = api.Log{}
		}
		expect(t, what, got, answer{d: d, l: l, e: got.e})
	}
}

// P5.1: what is handed in stays as it was, its spare room too; what is answered is nobody else's.
func TestHandedIn(t *testing.T) {
	roomy := func(b []byte) []byte { return append(make([]byte, 0, len(b)+100), b...) }
	for _, fuse := range []int{-1, 0, 1, 4, 12, 15} {
		base := format(fresh(20), texts(5, 70))
		base.d.Fuse = fuse
		loose := make([]api.Write, 2, 60)
		copy(loose, []api.Write{{At: 19, Data: sec{1}}, {At: 18, Data: sec{2}}})
		base.d.Loose = loose
		list := append(make([][]byte, 0, 9), roomy(text(65, 3)), roomy(text(1, 4)))
		b := roomy(text(100, 6))
		d, kept := deep(base.d), deepList(list)
		for _, x := range []answer{format(base.d, list), open(base.d), add(base.d, base.l, b), compact(base.d, base.l, list)} {
			if !sector.Same(base.d, d) || !sameList(list, kept) || !slices.Equal(b, text(100, 6)) {
				t.Fatal("what was handed in has changed")
			}
			for _, w := range loose[2:60] {
				if w != (api.Write{}) {
					t.Fatal("spare room of the loose writes has changed")
				}
			}
			for _, l := range slices.Concat(list, [][]byte{b}) {
				if slices.Max(append([]byte{0}, l[len(l):cap(l)]...)) != 0 {
					t.Fatal("spare room of a record has changed")
				}
			}
			if x.e != api.OK {
				continue
			}
			was, told := deep(x.d), deepList(x.list)
			spoil(base.d, list, b)
			if !sector.Same(x.d, was) || !sameList(x.list, told) {
				t.Fatal("an answer changed with what was handed in")
			}
			copy(base.d.Sectors, d.Sectors)
			copy(base.d.Loose, d.Loose)
			for i := range list {
				copy(list[i], kept[i])
			}
			copy(b, text(100, 6))
		}
	}
}

func spoil(d api.Disk, list [][]byte, b []byte) {
	for i := range d.Sectors {
		d.Sectors[i][7] ^= 255
	}
	for i := range d.Loose {
		d.Loose[i].Data[7] ^= 255
	}
	for _, l := range slices.Concat(list, [][]byte{b}) {
		for i := range l {
			l[i] ^= 255
		}
	}
}

// P5.1: the records that Open tells share nothing with one another, nor with the disk.
func TestToldAlone(t *testing.T) {
	got := open(twoHalves(20, 0))
	was, told := deep(got.d), deepList(got.list)
	for i := range got.list {
		got.list[i] = append(got.list[i], 255, 255, 255)[:len(got.list[i])]
		for j, b := range got.list {
			if !slices.Equal(b, told[j]) {
				t.Error("record", j, "changed with", i)
			}
		}
	}
	for _, b := range got.list {
		for i := range b {
			b[i] = 255
		}
	}
	if !sector.Same(got.d, was) {
		t.Error("the disk changed with the records")
	}
}
