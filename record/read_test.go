package record_test

import (
	"bytes"
	"fmt"
	"math/rand"
	"slices"
	"testing"

	"escheat/api"
	"escheat/event"
)

// P15.1: fewer bytes than a Head has are too short, whatever they are; 32 need not be.
func TestReadShort(t *testing.T) {
	refused(t, "none", nil, api.ErrShort)
	refused(t, "no bytes", []byte{}, api.ErrShort)
	for n := range 32 {
		for _, b := range [][]byte{make([]byte, 32), bytes.Repeat([]byte{255}, 32), joined(nums(1), samples()[0].laid)} {
			refused(t, fmt.Sprint(n, " bytes"), b[:n], api.ErrShort)
		}
	}
	for _, head := range [][32]byte{{}, headOf(6), full()} {
		refused(t, "a Head alone", head[:], api.ErrShort)
		refused(t, "a Head, and 0", joined(head[:], nums(0)), api.ErrForm)
		for n := range 8 {
			refused(t, "a Head, and a number cut short", joined(head[:], nums(1)[:n]), api.ErrShort)
		}
	}
}

// P15.1: the number's error comes ahead of that of what is behind it, and of another chain.
func TestReadNumber(t *testing.T) {
	head := headOf(4)
	for _, n := range wrongNumbers() {
		refused(t, n.what, joined(head[:], n.b), n.want)
		if len(n.b) < 8 {
			continue
		}
		for _, x := range samples() {
			refused(t, n.what+", and an event", joined(head[:], n.b, x.laid), n.want)
		}
		for _, x := range wrongLaid() {
			refused(t, n.what+", and "+x.what, joined(head[:], n.b, x.b), n.want)
		}
	}
}

// P15.1: a number has eight bytes, no fewer and no more.
func TestReadNumberSize(t *testing.T) {
	for _, x := range samples() {
		for n := range 16 {
			b := joined(make([]byte, 32), make([]byte, n), []byte{1}, x.laid)
			if c, e, f := likeRead(t, "a 1 behind zeros", b); (f == api.OK) != (n == 7) || n == 7 && toldAll(c, e) != toldAll(api.Chain{}, x.e) {
				t.Errorf("%d zeros, and 1: %.300s, error %d", n, toldAll(c, e), f)
			}
		}
	}
}

// P15.1: a record of each kind tells the chain that it is behind, and its event; so do 1 and 2^40.
func TestReadKinds(t *testing.T) {
	for _, x := range samples() {
		for _, head := range [][32]byte{{}, headOf(30), full()} {
			for _, n := range []int{1, 2, 127, 128, 255, 256, 16383, 16384, 1 << 32, endCount - 1, endCount} {
				b := joined(head[:], nums(n), x.laid)
				c, e, f := likeRead(t, "a record", b)
				if f != api.OK || c.Head != head || c.Count != n-1 || told(e) != told(x.e) || !event.Same(e, x.e) {
					t.Errorf("number %d: %.300s, error %d, not %.300s", n, toldAll(c, e), f, told(x.e))
				}
				y, e, f := likeLink(t, "a record", c, b)
				if f != api.OK || y != ownBehind(c, b) || told(e) != told(x.e) {
					t.Errorf("number %d: linked as %.300s, error %d, not %.300s", n, toldAll(y, e), f, told(x.e))
				}
			}
		}
	}
}

// P15.1: each of layer 12's errors of what stands behind the number.
func TestReadEvent(t *testing.T) {
	for _, x := range wrongLaid() {
		for _, n := range []int{1, 300, endCount} {
			refused(t, x.what, joined(make([]byte, 32), nums(n), x.b), x.want)
		}
		head := headOf(99)
		refused(t, x.what, joined(head[:], nums(2), x.b), x.want)
	}
}

// P15.1: a record is behind one Head and one Count alone; each bit counts.
func TestLinkChain(t *testing.T) {
	for _, x := range samples() {
		for _, n := range []int{0, 1, 300, endCount - 1} {
			c := api.Chain{Head: headOf(50), Count: n}
			b := ownRecord(c, x.laid)
			if y, e, f := likeLink(t, "its own chain", c, b); f != api.OK || y != ownBehind(c, b) || told(e) != told(x.e) {
				t.Errorf("its own chain: %.300s, error %d", toldAll(y, e), f)
			}
			for _, other := range otherChains(c, b) {
				unlinked(t, other, b)
			}
		}
	}
	c := api.Chain{Head: headOf(50), Count: 8}
	b := ownRecord(c, samples()[0].laid)
	for bit := range 256 {
		other := c
		other.Head[bit/8] ^= 1 << (bit % 8)
		unlinked(t, other, b)
	}
	for bit := range 64 {
		unlinked(t, api.Chain{Head: c.Head, Count: c.Count ^ 1<<bit}, b)
	}
}

// unlinked: a record that may be isn't behind the chain; nothing is told beside that.
func unlinked(t *testing.T, c api.Chain, b []byte) {
	t.Helper()
	if x, e, f := likeLink(t, "another chain", c, b); f != api.ErrChain || toldAll(x, e) != toldAll(api.Chain{}, api.Event{}) {
		t.Errorf("another chain: error %d; beside it %.300s: %v, %.99x", f, toldAll(x, e), c, b)
	}
}

// otherChains: those that are not c, of which b is the next record; right and wrong ones.
func otherChains(c api.Chain, b []byte) []api.Chain {
	first, last := c.Head, c.Head
	first[0]++
	last[31]++
	l := []api.Chain{
		{Head: c.Head, Count: c.Count - 1}, {Head: c.Head, Count: c.Count + 1}, {Head: first, Count: c.Count}, {Head: last, Count: c.Count}, {Head: first, Count: c.Count + 1}, {Head: last, Count: c.Count - 1},
		{Count: c.Count}, {}, ownBehind(c, b), {Head: ownBehind(c, b).Head, Count: c.Count}, {Head: c.Head, Count: endCount},
	}
	for _, n := range wrongCounts {
		l = append(l, api.Chain{Head: c.Head, Count: n}, api.Chain{Head: first, Count: n})
	}
	return slices.DeleteFunc(l, func(other api.Chain) bool { return other == c })
}

// P15.1: behind a chain that isn't right no record links; if its number is such a one's, that is told first.
func TestLinkWrongChain(t *testing.T) {
	for _, n := range slices.Concat(wrongCounts, []int{endCount}) {
		for _, x := range samples() {
			c := api.Chain{Head: headOf(2), Count: n}
			refused(t, "a record behind a chain that can't have one", ownRecord(c, x.laid), api.ErrForm)
			unlinked(t, c, joined(c.Head[:], nums(1), x.laid))
			unlinked(t, c, joined(c.Head[:], nums(endCount), x.laid))
		}
	}
}

// P15.1: bytes left out, put in, or doubled.
func TestReadElse(t *testing.T) {
	for i, x := range samples() {
		b := ownRecord(api.Chain{Head: headOf(byte(i)), Count: 1 + i}, x.laid)
		for at := 0; at < len(b); at += 1 + len(b)/200 {
			for n := 1; n <= 9 && at+n <= len(b); n++ {
				likeRead(t, "left out", slices.Delete(slices.Clone(b), at, at+n))
				likeRead(t, "doubled", slices.Insert(slices.Clone(b), at, b[at:at+n]...))
				likeRead(t, "put in", slices.Insert(slices.Clone(b), at, make([]byte, n)...))
			}
		}
	}
}

// P15.1: very many bytes end, too.
func TestReadLong(t *testing.T) {
	many := make([]byte, 5000000)
	refused(t, "very many", many, api.ErrForm)
	refused(t, "very many", joined(make([]byte, 32), nums(1), many), api.ErrForm)
	refused(t, "very many", joined(make([]byte, 32), nums(1, 13, 7, 3), many), api.ErrForm)
}

// P15.1: bytes by chance.
func TestReadByChance(t *testing.T) {
	r := rand.New(rand.NewSource(15))
	pieces := [][]byte{text("a"), text("INBOX"), text("inbox"), text(""), nums(0), nums(1), nums(1, 1), nums(2, 1, 2), nums(31), nums(endCount), nums(endCount + 1), nums(-1), {0}, {0, 0, 16, 1}}
	good := 0
	for range 50000 {
		b := make([]byte, 32)
		r.Read(b)
		b = append(b, nums(r.Intn(9), 1+r.Intn(15), r.Intn(9))...)
		for range r.Intn(5) {
			b = append(b, pieces[r.Intn(len(pieces))]...)
		}
		c, _, f := likeRead(t, "by chance", b)
		if f == api.OK {
			good++
		}
		likeLink(t, "by chance", c, b)
	}
	if good < 500 || good > 40000 {
		t.Error(good, "of 50000 are read")
	}
	for range 20000 {
		b := make([]byte, r.Intn(90))
		r.Read(b)
		likeRead(t, "by chance", b)
		likeLink(t, "by chance", api.Chain{}, b)
	}
}
