package wal_test

import (
	"encoding/binary"
	"hash/crc32"
	"slices"
	"testing"

	"escheat/api"
	"escheat/sector"
	"escheat/wal"
)

// What the chapter's words say, in the tests' own way: deeds one by one for what is written, whole halves for what is read.

const maxGen = 1 << 40

type sec = [api.Sector]byte

// text: so many bytes, none of them 0.
func text(n, seed int) []byte {
	b := make([]byte, n)
	x := uint32(seed)*2654435761 + 12345
	for i := range b {
		x = x*1664525 + 1013904223
		b[i] = byte(x>>24) | 1
	}
	return b
}

func texts(sizes ...int) [][]byte {
	var list [][]byte
	for i, n := range sizes {
		list = append(list, text(n, i+1))
	}
	return list
}

// fresh: a disk of so many sectors without a log, none of them all 0, and nothing loose.
func fresh(n int) api.Disk {
	d := api.Disk{Fuse: -1, Sectors: make([]sec, n)}
	for i := range d.Sectors {
		copy(d.Sectors[i][:], text(api.Sector, 1000+i))
	}
	return d
}

// littered: one with loose writes, too.
func littered(n int) api.Disk {
	d := fresh(n)
	for i := range min(n, 5) {
		d.Loose = append(d.Loose, api.Write{At: n - 1 - i, Data: sec(text(api.Sector, 2000+i))})
	}
	return d
}

func deep(d api.Disk) api.Disk {
	d.Sectors = slices.Clone(d.Sectors)
	d.Loose = slices.Clone(d.Loose)
	return d
}

func deepList(l [][]byte) [][]byte {
	var c [][]byte
	for _, b := range l {
		c = append(c, slices.Clone(b))
	}
	return c
}

func sameList(a, b [][]byte) bool { return slices.EqualFunc(a, b, slices.Equal[[]byte]) }

func ownTakes(n int) int {
	if n < 1 || n > 6000 {
		return 0
	}
	t := 1
	for n > 0 {
		t++
		n -= 64
	}
	return t
}

// rawMark: a first sector with any numbers.
func rawMark(gen, number, size, sum uint64) sec {
	var s sec
	copy(s[:], "WLOG")
	for i, n := range []uint64{gen, number, size, sum} {
		binary.BigEndian.PutUint64(s[4+8*i:], n)
	}
	return s
}

func ownMark(gen, number int, b []byte) sec {
	return rawMark(uint64(gen), uint64(number), uint64(len(b)), uint64(crc32.ChecksumIEEE(b)))
}

type deed struct {
	flush bool
	at    int
	data  sec
}

// body: a record's sectors behind its mark.
func body(at int, b []byte) []deed {
	var l []deed
	for c := range slices.Chunk(b, api.Sector) {
		at++
		var s sec
		copy(s[:], c)
		l = append(l, deed{at: at, data: s})
	}
	return l
}

func laying(from, size, gen int, list [][]byte) []deed {
	var l []deed
	for i := from; i < from+size; i++ {
		l = append(l, deed{at: i})
	}
	l = append(l, deed{flush: true})
	at := from
	for k, b := range list {
		if k > 0 {
			l = append(l, deed{at: at, data: ownMark(gen, k, b)})
		}
		l = append(l, body(at, b)...)
		at += ownTakes(len(b))
	}
	return append(l, deed{flush: true}, deed{at: from, data: ownMark(gen, 0, list[0])}, deed{flush: true})
}

func formatting(n int, list [][]byte) []deed {
	return append([]deed{{at: n / 2}}, laying(0, n/2, 1, list)...)
}

func appending(n int, l api.Log, b []byte) []deed {
	at := l.Half*(n/2) + l.Used
	return append(body(at, b), deed{flush: true}, deed{at: at, data: ownMark(l.Gen, l.Count, b)}, deed{flush: true})
}

func compacting(n int, l api.Log, list [][]byte) []deed {
	return laying((1-l.Half)*(n/2), n/2, l.Gen+1, list)
}

// done: the disk behind deeds, or the one that has fallen.
func done(d api.Disk, deeds []deed) (api.Disk, api.Errno) {
	for _, x := range deeds {
		var e api.Errno
		if x.flush {
			d, e = sector.Flush(d)
		} else {
			d, e = sector.Put(d, x.at, x.data)
		}
		if e != api.OK {
			return d, e
		}
	}
	return d, api.OK
}

// logOf: the log of records that were laid.
func logOf(half, gen int, list [][]byte) api.Log {
	l := api.Log{Half: half, Gen: gen, Count: len(list)}
	for _, b := range list {
		l.Used += ownTakes(len(b))
	}
	return l
}

// ownRead: a half's generation (0: none), its records, and whether it is damaged.
func ownRead(half []sec) (gen int, list [][]byte, damaged bool) {
	at := 0
	for at < len(half) {
		s := half[at]
		num := func(i int) uint64 { return binary.BigEndian.Uint64(s[4+8*i:]) }
		g, k, n, sum := num(0), num(1), num(2), num(3)
		if s != rawMark(g, k, n, sum) || g < 1 || g > maxGen || n < 1 || n > 6000 || sum >= 1<<32 {
			break
		}
		if k != uint64(len(list)) || gen != 0 && g != uint64(gen) || at+ownTakes(int(n)) > len(half) {
			break
		}
		gen = int(g)
		var b []byte
		for _, c := range half[at+1 : at+ownTakes(int(n))] {
			b = append(b, c[:]...)
		}
		b = b[:n]
		if uint64(crc32.ChecksumIEEE(b)) != sum {
			return gen, nil, true
		}
		list = append(list, b)
		at += ownTakes(int(n))
	}
	return gen, list, false
}

// ownOpen: what Open answers on a disk that may be.
func ownOpen(d api.Disk) (api.Disk, api.Log, [][]byte, api.Errno) {
	if d.Down {
		return d, api.Log{}, nil, api.ErrDown
	}
	view := slices.Clone(d.Sectors)
	for _, w := range d.Loose {
		view[w.At] = w.Data
	}
	n := len(view)
	half := 0
	gen, list, damaged := ownRead(view[:n/2])
	if g, l, x := ownRead(view[n/2 : n/2*2]); g > gen {
		half, gen, list, damaged = 1, g, l, x
	}
	switch {
	case gen == 0:
		return d, api.Log{}, nil, api.ErrNone
	case damaged:
		return d, api.Log{}, nil, api.ErrSum
	case gen == maxGen:
		return d, api.Log{}, nil, api.ErrRange
	}
	after, e := done(d, compacting(n, api.Log{Half: half, Gen: gen}, list))
	if e != api.OK {
		return after, api.Log{}, nil, e
	}
	return after, logOf(1-half, gen+1, list), list, api.OK
}

type answer struct {
	d    api.Disk
	l    api.Log
	list [][]byte
	e    api.Errno
}

func format(d api.Disk, list [][]byte) answer {
	d, l, e := wal.Format(d, list)
	return answer{d, l, nil, e}
}

func open(d api.Disk) answer {
	d, l, list, e := wal.Open(d)
	return answer{d, l, list, e}
}

func add(d api.Disk, l api.Log, b []byte) answer {
	d, l, e := wal.Append(d, l, b)
	return answer{d, l, nil, e}
}

func compact(d api.Disk, l api.Log, list [][]byte) answer {
	d, l, e := wal.Compact(d, l, list)
	return answer{d, l, nil, e}
}

func expect(t *testing.T, what string, got, want answer) {
	t.Helper()
	if got.e != want.e {
		t.Errorf("%s: error %d, not %d", what, got.e, want.e)
	}
	if got.l != want.l {
		t.Errorf("%s: log %v, not %v", what, got.l, want.l)
	}
	if !sameList(got.list, want.list) {
		t.Errorf("%s: %d records, not the %d", what, len(got.list), len(want.list))
	}
	if got.d.Fuse != want.d.Fuse || got.d.Down != want.d.Down {
		t.Errorf("%s: fuse %d, down %v, not %d, %v", what, got.d.Fuse, got.d.Down, want.d.Fuse, want.d.Down)
	}
	if !slices.Equal(got.d.Sectors, want.d.Sectors) {
		t.Errorf("%s: other sectors", what)
	}
	if !slices.Equal(got.d.Loose, want.d.Loose) {
		t.Errorf("%s: other loose writes", what)
	}
}
