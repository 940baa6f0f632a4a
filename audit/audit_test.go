package audit_test

import (
	"fmt"
	"math/rand"
	"slices"
	"testing"

	"escheat/api"
	"escheat/audit"
	"escheat/event"
	"escheat/record"
	"escheat/state"
)

// P16.1: the chapter's example.
func TestExample(t *testing.T) {
	l := made(t, create("a"), bring("a", "x"), expunge("a", 1))
	if c, f := audit.Verify(l); f != api.OK || c.Count != 3 || audit.Place(l) != 3 {
		t.Fatal(c, f)
	}
	other := made(t, create("b"), bring("b", "x"))
	breaks(t, "the second one exchanged", [][]byte{l[0], other[1], l[2]}, 1, api.ErrChain)
}

// P16.1: of no record at all, the first chain, the first state, and no events.
func TestNoRecord(t *testing.T) {
	for _, l := range [][][]byte{nil, {}, made(t, story()...)[:0]} {
		x := likeAll(t, "no record", l)
		if x.Err != 0 || x.Chain != (api.Chain{}) || !state.Same(x.State, state.New()) {
			t.Errorf("no record: %s", told(x))
		}
		if c, f := audit.Verify(l); f != api.OK || c != (api.Chain{}) || audit.Place(l) != 0 {
			t.Errorf("no record: %v, error %d, place %d", c, f, audit.Place(l))
		}
		if events, f := audit.Events(l); f != api.OK || len(events) != 0 {
			t.Errorf("no record: %v, error %d", events, f)
		}
	}
}

// P16.1: all the beginnings of a chain: the chain is record's own, the events are those that it was made of, in their order.
func TestBeginnings(t *testing.T) {
	events := story()
	l := [][]byte{}
	c := api.Chain{}
	for i, e := range events {
		b, next, f := record.Next(c, e)
		if f != api.OK {
			t.Fatal(f)
		}
		l, c = append(l, b), next
		what := fmt.Sprint("the first ", i+1)
		likeAll(t, what, l)
		if got, f := audit.Verify(l); f != api.OK || got != c || audit.Place(l) != i+1 {
			t.Errorf("%s: %v, error %d, place %d, not %v", what, got, f, audit.Place(l), c)
		}
		if got, f := audit.Events(l); f != api.OK || !slices.EqualFunc(got, events[:i+1], event.Same) {
			t.Errorf("%s: %s, error %d", what, short(told(got)), f)
		}
	}
	if !same(l, made(t, events...)) {
		t.Error("record and the tests make other records")
	}
}

// P16.1: many records.
func TestMany(t *testing.T) {
	l := made(t, times(3000, func(i int) api.Event {
		if i%2 == 0 {
			return at(i, subscribe("a"))
		}
		return at(i, forget("a"))
	})...)
	if c, f := audit.Verify(l); f != api.OK || c != ownVerify(l).Chain || audit.Place(l) != 3000 {
		t.Errorf("%v, error %d, place %d", c, f, audit.Place(l))
	}
	if s, c, f := audit.Replay(l); f != api.OK || c.Count != 3000 || s.Clock != 2999 || len(s.Subs) != 0 {
		t.Errorf("%v, %v, error %d", s, c, f)
	}
	l[2998] = l[2996]
	breaks(t, "the last but one exchanged", l, 2998, api.ErrChain)
}

// P16.1: at each place each error of a record, with all behind it as it was, and made anew; none of those behind is counted.
func TestWrongRecord(t *testing.T) {
	events := story()
	l := made(t, events...)
	for place := range l {
		for _, x := range wrongAt(t, l, place) {
			what := fmt.Sprintf("%s at %d", x.what, place)
			other := slices.Clone(l)
			other[place] = x.b
			breaks(t, what, other, place, x.want)
			breaks(t, what+", the last one", other[:place+1], place, x.want)
			breaks(t, what+", all behind it made anew", behind(t, other[:place+1], events[place+1:]...), place, x.want)
			breaks(t, what+", a record more", slices.Insert(slices.Clone(l), place, x.b), place, x.want)
		}
	}
}

// P16.1: of two records that don't link the first one counts, whatever their errors.
func TestTwoWrong(t *testing.T) {
	l := made(t, story()[:5]...)
	for i := range l {
		for _, x := range wrongAt(t, l, i) {
			for j := i + 1; j < len(l); j++ {
				for _, y := range wrongAt(t, l, j) {
					other := slices.Clone(l)
					other[i], other[j] = x.b, y.b
					if c, f := audit.Verify(other); f != x.want || c != (api.Chain{}) || audit.Place(other) != i {
						t.Errorf("%s at %d, %s at %d: error %d, place %d", x.what, i, y.what, j, f, audit.Place(other))
					}
					if _, f := audit.Events(other); f != x.want {
						t.Errorf("%s at %d, %s at %d: Events: error %d", x.what, i, y.what, j, f)
					}
					if _, _, f := audit.Replay(other); f != x.want {
						t.Errorf("%s at %d, %s at %d: Replay: error %d", x.what, i, y.what, j, f)
					}
				}
			}
		}
	}
}

// P16.1: a record left out, doubled, or in another's place.
func TestOtherOrder(t *testing.T) {
	l := made(t, story()...)
	for i := range l {
		if i+1 < len(l) {
			breaks(t, fmt.Sprint("without ", i), slices.Delete(slices.Clone(l), i, i+1), i, api.ErrChain)
		}
		breaks(t, fmt.Sprint("twice ", i), slices.Insert(slices.Clone(l), i, l[i]), i+1, api.ErrChain)
		breaks(t, fmt.Sprint("again at the end ", i), append(slices.Clone(l), l[i]), len(l), api.ErrChain)
		for j := range i {
			other := slices.Clone(l)
			other[i], other[j] = other[j], other[i]
			breaks(t, fmt.Sprint(j, " and ", i, " exchanged"), other, j, api.ErrChain)
		}
	}
}

// P16.1: records that are one behind the other, but begin behind another chain than the first one.
func TestOtherBeginning(t *testing.T) {
	l := made(t, story()...)
	for i := 1; i < len(l); i++ {
		breaks(t, fmt.Sprint("from ", i, " on"), l[i:], 0, api.ErrChain)
	}
	for _, c := range []api.Chain{{Count: 1}, {Head: [32]byte{1}}, {Head: [32]byte{31: 1}}, {Head: [32]byte{1}, Count: 1}, {Count: 1<<40 - 3}} {
		l := [][]byte{}
		for range 3 {
			b, next, f := record.Next(c, subscribe("a"))
			if f != api.OK {
				t.Fatal(f)
			}
			l, c = append(l, b), next
		}
		breaks(t, fmt.Sprintf("behind %v", c), l, 0, api.ErrChain)
	}
}

// P16.1: records that link again behind one that doesn't are not counted.
func TestLinkAgain(t *testing.T) {
	l := made(t, story()...)
	for i := range l {
		for what, b := range map[string][]byte{"nothing": nil, "the first one": l[0], "the last one": l[len(l)-1], "this one, and a byte": append(slices.Clip(l[i]), 0)} {
			if i == 0 && what == "the first one" {
				continue
			}
			if i == len(l)-1 && what == "the last one" {
				continue
			}
			other := slices.Insert(slices.Clone(l), i, b)
			want := api.ErrChain
			switch what {
			case "nothing":
				want = api.ErrShort
			case "this one, and a byte":
				want = api.ErrForm
			}
			breaks(t, fmt.Sprint(what, " at ", i), other, i, want)
		}
	}
}

// P16.1: chains by chance, changed by chance, some of them more than once.
func TestChance(t *testing.T) {
	r := rand.New(rand.NewSource(1600))
	full, other := made(t, story()...), made(t, story()[3:]...)
	met := map[int]int{}
	for range 1000 {
		l := slices.Clone(full[:r.Intn(len(full)+1)])
		for range r.Intn(3) {
			l = changed(r, l, other)
		}
		met[likeAll(t, "by chance", l).Err]++
		likeCollide(t, "by chance", l, full[:r.Intn(len(full)+1)])
		if t.Failed() {
			t.Fatalf("%x", l)
		}
	}
	for _, f := range []api.Errno{api.OK, api.ErrShort, api.ErrForm, api.ErrChain} {
		if met[int(f)] < 20 {
			t.Errorf("error %d was met %d times", f, met[int(f)])
		}
	}
}

// changed: a list with one thing changed.
func changed(r *rand.Rand, l, other [][]byte) [][]byte {
	if len(l) == 0 {
		return [][]byte{other[r.Intn(len(other))]}
	}
	at := r.Intn(len(l))
	b := slices.Clone(l[at])
	switch r.Intn(6) {
	case 0:
		return slices.Delete(l, at, at+1)
	case 1:
		return slices.Insert(l, at, other[r.Intn(len(other))])
	case 2:
		return slices.Insert(l, at, b)
	case 3:
		l[at] = b[:r.Intn(len(b)+1)]
	case 4:
		l[at] = append(b, byte(r.Intn(256)))
	case 5:
		if len(b) > 0 {
			b[r.Intn(len(b))] ^= byte(1 + r.Intn(255))
		}
		l[at] = b
	}
	return l
}
