package record_test

import (
	"bytes"
	"fmt"
	"slices"
	"testing"

	"escheat/api"
	"escheat/event"
	"escheat/record"
)

// P15.1: the chapter's example.
func TestExample(t *testing.T) {
	b, c, f := likeNext(t, "the example", api.Chain{}, api.Event{Kind: api.EvRelease, At: 7, N: 3})
	want := make([]byte, 64)
	want[39], want[47], want[55], want[63] = 1, 13, 7, 3
	if f != api.OK || !bytes.Equal(b, want) || c.Count != 1 {
		t.Error(b, c, f)
	}
	// The sum of these 64 bytes, as another program tells it.
	if got := fmt.Sprintf("%x", c.Head); got != "6b6f386978815a2bcf89e5eaa4dbbbf2e59a30ae0d19bc67f997c288314dfd91" {
		t.Error(got)
	}
}

// P15.1: a chain is right by its Count alone.
func TestRight(t *testing.T) {
	for _, head := range [][32]byte{{}, {1}, headOf(9), full()} {
		for _, n := range slices.Concat(edgeCounts(), []int{endCount - 1, endCount}) {
			if c := (api.Chain{Head: head, Count: n}); !record.Right(c) || !ownRight(c) {
				t.Error(n, "isn't right")
			}
		}
		for _, n := range wrongCounts {
			if c := (api.Chain{Head: head, Count: n}); record.Right(c) || ownRight(c) {
				t.Error(n, "is right")
			}
		}
	}
}

// nothingMade: Next answers this error, and nothing beside it.
func nothingMade(t *testing.T, what string, c api.Chain, e api.Event, want api.Errno) {
	t.Helper()
	if b, x, f := likeNext(t, what, c, e); f != want || len(b) > 0 || x != (api.Chain{}) {
		t.Errorf("%s: error %d, not %d; beside it %.99x, %v: %.300s", what, f, want, b, x, toldAll(c, e))
	}
}

// P15.1: no record is made behind a chain that isn't right, of whatever event.
func TestNextWrongChain(t *testing.T) {
	for _, n := range wrongCounts {
		for _, head := range [][32]byte{{}, headOf(3)} {
			c := api.Chain{Head: head, Count: n}
			for _, x := range samples() {
				nothingMade(t, "a chain that isn't right", c, x.e, api.ErrArg)
			}
			for _, e := range wrongEvents() {
				nothingMade(t, "neither is right", c, e, api.ErrArg)
			}
		}
	}
}

// P15.1: no record is made of an event that may not be, the chain being full or not.
func TestNextWrongEvent(t *testing.T) {
	for _, e := range wrongEvents() {
		if event.Right(e) {
			t.Fatal("that may be:", told(e))
		}
		for _, n := range []int{0, 1, 300, endCount - 1, endCount} {
			nothingMade(t, "an event that may not be", api.Chain{Count: n}, e, api.ErrArg)
			nothingMade(t, "an event that may not be", api.Chain{Head: headOf(5), Count: n}, e, api.ErrArg)
		}
	}
}

// P15.1: a chain of 2^40 records is full; the last one may be made.
func TestNextFull(t *testing.T) {
	for _, x := range samples() {
		for _, head := range [][32]byte{{}, headOf(77), full()} {
			nothingMade(t, "a full chain", api.Chain{Head: head, Count: endCount}, x.e, api.ErrRange)
			b, c, f := likeNext(t, "the last record", api.Chain{Head: head, Count: endCount - 1}, x.e)
			if f != api.OK || c.Count != endCount || !bytes.Equal(b, joined(head[:], []byte{0, 0, 1, 0, 0, 0, 0, 0}, x.laid)) {
				t.Errorf("the last record: %.99x, %v, error %d", b, c, f)
			}
			if !record.Right(c) {
				t.Error("a full chain isn't right")
			}
			nothingMade(t, "behind the last record", c, x.e, api.ErrRange)
		}
	}
}

// P15.1: the bytes of a record of each kind of event, behind chains of any head.
func TestNextKinds(t *testing.T) {
	for _, x := range samples() {
		for _, head := range [][32]byte{{}, {31: 1}, headOf(1), headOf(200), full()} {
			b, c, f := likeNext(t, "each kind", api.Chain{Head: head, Count: 4}, x.e)
			if f != api.OK || !bytes.Equal(b, joined(head[:], nums(5), x.laid)) || c.Count != 5 {
				t.Errorf("%.300s: %.200x, %v, error %d", told(x.e), b, c, f)
			}
		}
	}
}

// P15.1: the number of a record is one more than its chain's Count, of whatever length that is.
func TestNextNumbers(t *testing.T) {
	for _, n := range edgeCounts() {
		for i, x := range samples() {
			c := api.Chain{Head: headOf(byte(n)), Count: n}
			b, behind, f := likeNext(t, fmt.Sprint("Count ", n), c, x.e)
			if f != api.OK || !bytes.Equal(b, joined(c.Head[:], nums(n+1), x.laid)) || behind.Count != n+1 {
				t.Errorf("Count %d, sample %d: %.200x, %v, error %d", n, i, b, behind, f)
			}
		}
	}
	for n, want := range map[int][]byte{
		0:            {0, 0, 0, 0, 0, 0, 0, 1},
		126:          {0, 0, 0, 0, 0, 0, 0, 127},
		127:          {0, 0, 0, 0, 0, 0, 0, 128},
		254:          {0, 0, 0, 0, 0, 0, 0, 255},
		255:          {0, 0, 0, 0, 0, 0, 1, 0},
		16382:        {0, 0, 0, 0, 0, 0, 63, 255},
		16383:        {0, 0, 0, 0, 0, 0, 64, 0},
		1<<32 - 1:    {0, 0, 0, 1, 0, 0, 0, 0},
		endCount - 2: {0, 0, 0, 255, 255, 255, 255, 255},
	} {
		b, _, f := record.Next(api.Chain{Count: n}, samples()[0].e)
		if f != api.OK || !bytes.Equal(b[32:40], want) {
			t.Errorf("Count %d: %.99x, error %d", n, b, f)
		}
	}
}

// P15.1: each bit of a Head, and the Count, is in the record, and in the sum.
func TestNextHangsOnAll(t *testing.T) {
	e := samples()[0].e
	c := api.Chain{Head: headOf(8), Count: 6}
	b, behind, _ := likeNext(t, "as it is", c, e)
	for bit := range 256 {
		other := c
		other.Head[bit/8] ^= 1 << (bit % 8)
		d, x, f := likeNext(t, "another head", other, e)
		if f != api.OK || bytes.Equal(d, b) || x.Head == behind.Head || x.Count != behind.Count {
			t.Error("bit", bit, x, f)
		}
	}
	for _, x := range samples()[1:] {
		d, y, f := likeNext(t, "another event", c, x.e)
		if f != api.OK || bytes.Equal(d, b) || y.Head == behind.Head {
			t.Error("another event", y, f)
		}
	}
}
