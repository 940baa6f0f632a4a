package record_test

import (
	"bytes"
	"math/rand"
	"slices"
	"testing"

	"escheat/api"
	"escheat/event"
	"escheat/record"
)

// starts: right chains to go on from, the first one among them.
func starts() []api.Chain {
	l := []api.Chain{{}, {Count: 1}, {Head: headOf(1)}, {Head: full(), Count: endCount - 9}}
	for i, n := range []int{5, 120, 250, 16380, 1<<32 - 3, endCount - 40, endCount - 1, endCount} {
		l = append(l, api.Chain{Head: headOf(byte(20 * i)), Count: n})
	}
	return l
}

// someEvent: one that may be, by chance.
func someEvent(r *rand.Rand) api.Event {
	l := samples()
	e := lent(l[r.Intn(len(l))].e)
	e.At = r.Intn(endCount + 1)
	switch e.Kind {
	case api.EvRestore, api.EvRule, api.EvRelease:
		e.N = r.Intn(300)
	case api.EvExpunge, api.EvPurge:
		e.IDs = rising(1+r.Intn(1000), 1+r.Intn(60))
	case api.EvAppend:
		e.Body = make([]byte, r.Intn(2001))
		r.Read(e.Body)
	}
	return e
}

// link is a record, between the chain ahead of it and that behind it.
type link struct {
	ahead, behind api.Chain
	e             api.Event
	b             []byte
}

// run: records of events by chance, one behind the other, as many as asked or as there may be.
func run(t *testing.T, r *rand.Rand, c api.Chain, n int) []link {
	t.Helper()
	l := []link{}
	for range n {
		e := someEvent(r)
		b, behind, f := likeNext(t, "a run", c, e)
		if f == api.ErrRange && c.Count == endCount {
			return l
		}
		if f != api.OK || !record.Right(behind) || behind.Count != c.Count+1 {
			t.Fatalf("a run: %v, error %d behind %v: %.300s", behind, f, c, told(e))
		}
		l = append(l, link{c, behind, e, b})
		c = behind
	}
	return l
}

// P15.2: whatever the run, each record links behind its chain, with its event and the same chain behind it, and behind no other one of them.
func TestRuns(t *testing.T) {
	r := rand.New(rand.NewSource(1540))
	for _, start := range starts() {
		for range 3 {
			l := run(t, r, start, 30)
			if want := min(30, endCount-start.Count); len(l) != want {
				t.Fatalf("%d records behind %v, not %d", len(l), start, want)
			}
			for i, x := range l {
				for j, y := range l {
					linksBehindOwn(t, x, y.ahead, i == j)
				}
				for _, other := range otherChains(x.ahead, x.b) {
					linksBehindOwn(t, x, other, false)
				}
			}
		}
	}
}

// linksBehindOwn: a record links behind a chain just if that is its own.
func linksBehindOwn(t *testing.T, x link, c api.Chain, own bool) {
	t.Helper()
	behind, e, f := record.Link(c, x.b)
	switch {
	case own && (f != api.OK || behind != x.behind || !event.Same(e, x.e)):
		t.Errorf("%v: linked as %.300s, error %d, not as %.300s", c, toldAll(behind, e), f, toldAll(x.behind, x.e))
	case !own && (f != api.ErrChain || toldAll(behind, e) != toldAll(api.Chain{}, api.Event{})):
		t.Errorf("%v: another chain: %.300s, error %d", c, toldAll(behind, e), f)
	}
}

// P15.2: a run is followed from its beginning to its end; with a record left out, doubled, or in another place it isn't.
func TestRunIsOne(t *testing.T) {
	r := rand.New(rand.NewSource(1541))
	for _, start := range starts() {
		l := run(t, r, start, 6)
		list := [][]byte{}
		for _, x := range l {
			list = append(list, x.b)
		}
		if n, c := follow(start, list); n != len(l) || len(l) > 0 && c != l[len(l)-1].behind {
			t.Errorf("%d of %d, to %v", n, len(l), c)
		}
		for i := range list {
			if n, _ := follow(start, slices.Delete(slices.Clone(list), i, i+1)); n != i {
				t.Errorf("without %d: %d link", i, n)
			}
			if n, _ := follow(start, slices.Insert(slices.Clone(list), i, list[i])); n != i+1 {
				t.Errorf("with %d twice: %d link", i, n)
			}
			for j := range i {
				other := slices.Clone(list)
				other[i], other[j] = other[j], other[i]
				if n, _ := follow(start, other); n != j {
					t.Errorf("%d and %d exchanged: %d link", j, i, n)
				}
			}
		}
	}
}

// follow: how many records link, from a chain on, and the chain behind them.
func follow(c api.Chain, list [][]byte) (int, api.Chain) {
	for i, b := range list {
		behind, _, f := record.Link(c, b)
		if f != api.OK {
			return i, c
		}
		c = behind
	}
	return len(list), c
}

// P15.2: chains of one Head and of one Count, all beside one another: each record links behind its own alone.
func TestOneChainAlone(t *testing.T) {
	l := []link{}
	for _, head := range [][32]byte{{}, {1}, {31: 1}, headOf(0), headOf(1), full()} {
		for _, n := range []int{0, 1, 2, 127, 128, 255, 256, 1 << 16, 1 << 24, 1 << 32, endCount - 1} {
			c := api.Chain{Head: head, Count: n}
			e := api.Event{Kind: api.EvRelease, At: 7, N: 3}
			b, behind, f := likeNext(t, "one event", c, e)
			if f != api.OK {
				t.Fatal(c, f)
			}
			l = append(l, link{c, behind, e, b})
		}
	}
	for i, x := range l {
		for j, y := range l {
			linksBehindOwn(t, x, y.ahead, i == j)
			if i != j && (x.behind.Head == y.behind.Head || bytes.Equal(x.b, y.b)) {
				t.Errorf("one record behind %v and %v", x.ahead, y.ahead)
			}
		}
	}
}

// P15.2: a record with any byte changed gives another event, or another chain behind it, or an error.
func TestByteElse(t *testing.T) {
	for _, c := range []api.Chain{{}, {Head: headOf(60), Count: 299}, {Head: full(), Count: endCount - 1}} {
		for _, x := range samples() {
			b, behind, f := record.Next(c, x.e)
			if f != api.OK {
				t.Fatal(f)
			}
			turns := rising(1, 255)
			if len(b) > 400 {
				turns = []int{1, 2, 64, 128, 255}
			}
			for i := range b {
				for _, turn := range turns {
					other := slices.Clone(b)
					other[i] ^= byte(turn)
					if !changed(link{c, behind, x.e, other}, i) {
						t.Errorf("%.300s: byte %d as %d", toldAll(c, x.e), i, other[i])
					}
				}
			}
		}
	}
}

// changed: is what is said of a record, whose byte at is another one, what the model says, and another thing than ahead of that?
func changed(x link, at int) bool {
	ahead, e, f := record.Read(x.b)
	if f == api.OK && ahead == x.ahead && event.Same(e, x.e) {
		return false
	}
	behind, e, f := record.Link(x.ahead, x.b)
	want, wantEvent, wantErr := ownLink(x.ahead, x.b)
	switch {
	case f != wantErr || behind != want || !event.Same(e, wantEvent):
		return false
	case at < 32:
		return f == api.ErrChain
	case at < 40:
		return f == api.ErrChain || f == api.ErrForm
	}
	return f != api.OK || behind.Head != x.behind.Head
}
