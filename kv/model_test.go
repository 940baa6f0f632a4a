package kv_test

import (
	"encoding/binary"
	"fmt"
	"math/rand"
	"slices"
	"strings"
	"testing"

	"escheat/api"
	"escheat/kv"
	"escheat/wal"
)

// What the chapter's words say, in the tests' own way: pairs are a list in which each change is done at its place; bytes are laid and read by hand.

const maxGen = 1 << 40

type sec = [api.Sector]byte

func put(key, val string) api.Change { return api.Change{Key: key, Val: val} }

func gone(key string) api.Change { return api.Change{Key: key, Gone: true} }

func pair(key, val string) api.Pair { return api.Pair{Key: key, Val: val} }

// text: so many bytes, none of them 0.
func text(n, seed int) string {
	b := make([]byte, n)
	x := uint32(seed)*2654435761 + 12345
	for i := range b {
		x = x*1664525 + 1013904223
		b[i] = byte(x>>24) | 1
	}
	return string(b)
}

// many: so many pairs, each with a key of 4 bytes and a value of so many.
func many(n, size int) []api.Pair {
	var l []api.Pair
	for i := range n {
		l = append(l, pair(fmt.Sprintf("%04d", i), text(size, i)))
	}
	return l
}

func puts(l []api.Pair) []api.Change {
	var c []api.Change
	for _, p := range l {
		c = append(c, put(p.Key, p.Val))
	}
	return c
}

func ownKeyMayBe(key string) bool { return key != "" && len(key) < 65 }

func ownPairsMayBe(l []api.Pair) bool {
	for i, p := range l {
		if i == 400 || !ownKeyMayBe(p.Key) || len(p.Val) > 4096 {
			return false
		}
		if i > 0 && slices.Compare([]byte(l[i-1].Key), []byte(p.Key)) != -1 {
			return false
		}
	}
	return true
}

func ownChangesMayBe(l []api.Change) bool {
	for i, c := range l {
		if i == 400 || !ownKeyMayBe(c.Key) || len(c.Val) > 4096 || c.Gone && c.Val != "" {
			return false
		}
	}
	return true
}

func ownDo(l []api.Pair, c []api.Change) []api.Pair {
	l = slices.Clone(l)
	for _, x := range c {
		at := 0
		for at < len(l) && l[at].Key < x.Key {
			at++
		}
		there := at < len(l) && l[at].Key == x.Key
		switch {
		case x.Gone && there:
			l = slices.Delete(l, at, at+1)
		case x.Gone:
		case there:
			l[at].Val = x.Val
		default:
			l = slices.Insert(l, at, pair(x.Key, x.Val))
		}
	}
	return l
}

func num(b []byte, n uint64) []byte { return binary.BigEndian.AppendUint64(b, n) }

func txt(b []byte, s string) []byte {
	return append(binary.BigEndian.AppendUint32(b, uint32(len(s))), s...)
}

func ownBytes(l []api.Change) []byte {
	b := num(nil, uint64(len(l)))
	for _, c := range l {
		if c.Gone {
			b = txt(num(b, 1), c.Key)
		} else {
			b = txt(txt(num(b, 0), c.Key), c.Val)
		}
	}
	return b
}

func ownEncode(l []api.Change) ([]byte, api.Errno) {
	if !ownChangesMayBe(l) {
		return nil, api.ErrArg
	}
	if b := ownBytes(l); len(b) <= 6000 {
		return b, api.OK
	}
	return nil, api.ErrLong
}

func ownDecode(b []byte) (l []api.Change, e api.Errno) {
	number := func() (n uint64, e api.Errno) {
		if len(b) < 8 {
			return 0, api.ErrShort
		}
		n, b = binary.BigEndian.Uint64(b), b[8:]
		if n > 1<<62 {
			return 0, api.ErrForm
		}
		return n, api.OK
	}
	word := func() (s string, e api.Errno) {
		if len(b) < 4 {
			return "", api.ErrShort
		}
		n := int(binary.BigEndian.Uint32(b))
		if n > 4096 {
			return "", api.ErrLong
		}
		if len(b)-4 < n {
			return "", api.ErrShort
		}
		s, b = string(b[4:4+n]), b[4+n:]
		return s, api.OK
	}
	count, e := number()
	if e != api.OK {
		return nil, e
	}
	if count > 400 {
		return nil, api.ErrLong
	}
	for range count {
		n, e := number()
		if e != api.OK {
			return nil, e
		}
		if n > 1 {
			return nil, api.ErrForm
		}
		c := api.Change{Gone: n == 1}
		if c.Key, e = word(); e != api.OK {
			return nil, e
		}
		if n == 0 {
			if c.Val, e = word(); e != api.OK {
				return nil, e
			}
		}
		l = append(l, c)
	}
	if len(b) > 0 || !ownChangesMayBe(l) {
		return nil, api.ErrForm
	}
	return l, api.OK
}

// ownSnapshot: as many pairs as come to at most 6000 bytes, and so on with the others.
func ownSnapshot(l []api.Pair) [][]byte {
	n := 0
	for n < len(l) && len(ownBytes(puts(l[:n+1]))) <= 6000 {
		n++
	}
	list := [][]byte{ownBytes(puts(l[:n]))}
	if n < len(l) {
		list = append(list, ownSnapshot(l[n:])...)
	}
	return list
}

type answer struct {
	d api.Disk
	s api.Store
	e api.Errno
}

func format(d api.Disk) answer {
	d, s, e := kv.Format(d)
	return answer{d, s, e}
}

func open(d api.Disk) answer {
	d, s, e := kv.Open(d)
	return answer{d, s, e}
}

func commit(d api.Disk, s api.Store, l []api.Change) answer {
	d, s, e := kv.Commit(d, s, l)
	return answer{d, s, e}
}

func ownFormat(d api.Disk) answer {
	d, l, e := wal.Format(d, [][]byte{make([]byte, 8)})
	return answer{d, api.Store{Log: l}, e}
}

func ownOpen(d api.Disk) answer {
	d, l, list, e := wal.Open(d)
	if e != api.OK {
		return answer{d: d, e: e}
	}
	var pairs []api.Pair
	for _, b := range list {
		c, e := ownDecode(b)
		if e != api.OK {
			return answer{d: d, e: api.ErrForm}
		}
		pairs = ownDo(pairs, c)
		if !ownPairsMayBe(pairs) {
			return answer{d: d, e: api.ErrForm}
		}
	}
	return answer{d, api.Store{Log: l, Pairs: pairs}, api.OK}
}

func ownCommit(d api.Disk, s api.Store, l []api.Change) answer {
	if !wal.Right(d, s.Log) || !ownPairsMayBe(s.Pairs) {
		return answer{d, s, api.ErrArg}
	}
	b, e := ownEncode(l)
	if e != api.OK {
		return answer{d, s, e}
	}
	pairs := ownDo(s.Pairs, l)
	if !ownPairsMayBe(pairs) {
		return answer{d, s, api.ErrFull}
	}
	after, log, e := wal.Append(d, s.Log, b)
	if e == api.ErrFull {
		after, log, e = wal.Compact(d, s.Log, ownSnapshot(pairs))
	}
	if e != api.OK {
		return answer{after, s, e}
	}
	return answer{after, api.Store{Log: log, Pairs: pairs}, api.OK}
}

// short: a store's pairs, as a failing test tells them.
func short(l []api.Pair) string {
	var b strings.Builder
	fmt.Fprint(&b, len(l), " pairs:")
	for _, p := range l[:min(len(l), 6)] {
		fmt.Fprintf(&b, " %.12q=%.12q", p.Key, p.Val)
	}
	return b.String()
}

func expect(t *testing.T, what string, got, want answer) {
	t.Helper()
	if got.e != want.e {
		t.Errorf("%s: error %d, not %d", what, got.e, want.e)
	}
	if got.s.Log != want.s.Log {
		t.Errorf("%s: log %v, not %v", what, got.s.Log, want.s.Log)
	}
	if !slices.Equal(got.s.Pairs, want.s.Pairs) {
		t.Errorf("%s: %s, not %s", what, short(got.s.Pairs), short(want.s.Pairs))
	}
	if got.d.Fuse != want.d.Fuse || got.d.Down != want.d.Down {
		t.Errorf("%s: fuse %d, down %v, not %d, %v", what, got.d.Fuse, got.d.Down, want.d.Fuse, want.d.Down)
	}
	if !slices.Equal(got.d.Sectors, want.d.Sectors) {
		t.Errorf("%s: other sectors", what)
	}
	if !slices.Equal(got.d.Loose, want.d.Loose) {
		t.Errorf("%s: other loose writes", what)
	}
}

// fresh: a disk of so many sectors without a log, none of them all 0, and nothing loose.
func fresh(n int) api.Disk {
	d := api.Disk{Fuse: -1, Sectors: make([]sec, n)}
	for i := range d.Sectors {
		copy(d.Sectors[i][:], text(api.Sector, 1000+i))
	}
	return d
}

// littered: one with loose writes, too.
func littered(n int) api.Disk {
	d := fresh(n)
	for i := range min(n, 5) {
		d.Loose = append(d.Loose, api.Write{At: n - 1 - i, Data: sec([]byte(text(api.Sector, 2000+i)))})
	}
	return d
}

func fallen(d api.Disk) api.Disk {
	d.Down = true
	return d
}

func armed(d api.Disk, fuse int) api.Disk {
	d.Fuse = fuse
	return d
}

func deep(d api.Disk) api.Disk {
	d.Sectors = slices.Clone(d.Sectors)
	d.Loose = slices.Clone(d.Loose)
	return d
}

// with: a store on a disk of so many sectors, that has these pairs, each put by a transaction of its own or, of more than 20, by as few as may be.
func with(t testing.TB, n int, l []api.Pair) answer {
	t.Helper()
	x := format(fresh(n))
	at := 1
	if len(l) > 20 {
		at = 100
	}
	for c := range slices.Chunk(puts(l), at) {
		if x.e == api.OK {
			x = commit(x.d, x.s, c)
		}
	}
	if x.e != api.OK || !slices.Equal(x.s.Pairs, l) {
		t.Fatal(short(x.s.Pairs), x.e)
	}
	return x
}

// none: changes by which all pairs go.
func none(l []api.Pair) []api.Change {
	var c []api.Change
	for _, p := range l {
		c = append(c, gone(p.Key))
	}
	return c
}

// someKey: one of 42, with equal beginnings, bytes above 127, and 0.
func someKey(r *rand.Rand) string {
	b := make([]byte, 1+r.Intn(2))
	for i := range b {
		b[i] = "ab\x00\x7f\x80\xff"[r.Intn(6)]
	}
	return string(b)
}

// someChanges: so many, by chance, of values of at most so many bytes.
func someChanges(r *rand.Rand, n, most int) []api.Change {
	var l []api.Change
	for range n {
		if r.Intn(3) == 0 {
			l = append(l, gone(someKey(r)))
		} else {
			l = append(l, put(someKey(r), text(r.Intn(most+1), r.Int())))
		}
	}
	return l
}
