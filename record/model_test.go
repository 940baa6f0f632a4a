package record_test

import (
	"bytes"
	"crypto/sha256"
	"encoding/binary"
	"fmt"
	"slices"
	"testing"

	"escheat/api"
	"escheat/event"
	"escheat/record"
)

// What the chapter's words say, in the tests' own way: a record is three pieces at their places, its number and its sum are the library's; an event's bytes are layer 12's, where they aren't written out.

const (
	least    = -1 << 63
	most     = 1<<63 - 1
	endCount = 1099511627776 // the most records of a chain, and the last second
	endNum   = 1 << 62       // the greatest number that has bytes
)

// nums: the bytes of numbers, whether they may be or not.
func nums(l ...int) []byte {
	var b []byte
	for _, n := range l {
		b = binary.BigEndian.AppendUint64(b, uint64(n))
	}
	return b
}

// text: the bytes of a text, whether it may be or not.
func text(s string) []byte {
	return append(binary.BigEndian.AppendUint32(nil, uint32(len(s))), s...)
}

// joined: pieces of bytes, one behind the other.
func joined(l ...[]byte) []byte { return slices.Concat(l...) }

func ownRight(c api.Chain) bool { return c.Count > -1 && c.Count < endCount+1 }

// ownRecord: a record's bytes, whether it may be or not.
func ownRecord(c api.Chain, laid []byte) []byte {
	return joined(c.Head[:], nums(c.Count+1), laid)
}

func ownBehind(c api.Chain, b []byte) api.Chain {
	return api.Chain{Head: sha256.Sum256(b), Count: c.Count + 1}
}

func ownNext(c api.Chain, e api.Event) ([]byte, api.Chain, api.Errno) {
	laid, f := event.Encode(e)
	switch {
	case !ownRight(c) || f != api.OK:
		return nil, api.Chain{}, api.ErrArg
	case c.Count == endCount:
		return nil, api.Chain{}, api.ErrRange
	}
	b := ownRecord(c, laid)
	return b, ownBehind(c, b), api.OK
}

func ownRead(b []byte) (api.Chain, api.Event, api.Errno) {
	if len(b) < 32+8 {
		return api.Chain{}, api.Event{}, api.ErrShort
	}
	n := binary.BigEndian.Uint64(b[32:])
	if n < 1 || n > endCount {
		return api.Chain{}, api.Event{}, api.ErrForm
	}
	e, f := event.Decode(b[40:])
	if f != api.OK {
		return api.Chain{}, api.Event{}, f
	}
	c := api.Chain{Count: int(n) - 1}
	copy(c.Head[:], b)
	return c, e, api.OK
}

func ownLink(c api.Chain, b []byte) (api.Chain, api.Event, api.Errno) {
	ahead, e, f := ownRead(b)
	switch {
	case f != api.OK:
		return api.Chain{}, api.Event{}, f
	case ahead.Count != c.Count || !bytes.Equal(ahead.Head[:], c.Head[:]):
		return api.Chain{}, api.Event{}, api.ErrChain
	}
	return ownBehind(c, b), e, api.OK
}

func told(e api.Event) string {
	return fmt.Sprintf("kind %d at %d: %q %q %d %d %d %d %d %d %q", e.Kind, e.At, e.Box, e.To, e.IDs, e.Set, e.Mode, e.Flags, e.Date, e.N, e.Body)
}

// toldAll: a chain and an event.
func toldAll(c api.Chain, e api.Event) string {
	return fmt.Sprintf("%x, %d, %s", c.Head, c.Count, told(e))
}

// roomy: the same list, in memory of its own, with spare room behind it.
func roomy[T any](l []T, spare T) []T {
	if l == nil {
		return nil
	}
	return slices.Concat(l, []T{spare, spare, spare})[:len(l)]
}

func room[T any](l []T) []T { return l[:cap(l)] }

// lent: the same event, in memory of its own, with spare room behind each of its lists.
func lent(e api.Event) api.Event {
	e.IDs, e.Set, e.Body = roomy(e.IDs, 77), roomy(e.Set, api.Range{From: 7, To: 8}), roomy(e.Body, '<')
	return e
}

// toldRoom: an event with all its spare room.
func toldRoom(e api.Event) string {
	s := fmt.Sprint(len(e.IDs), len(e.Set), len(e.Body))
	e.IDs, e.Set, e.Body = room(e.IDs), room(e.Set), room(e.Body)
	return s + told(e)
}

// spoil: all of the lists of an event is other, their spare room too.
func spoil(e api.Event) {
	for i := range room(e.IDs) {
		room(e.IDs)[i] += 1000
	}
	for i := range room(e.Set) {
		room(e.Set)[i].From -= 1000
		room(e.Set)[i].To += 1000
	}
	spoilBytes(e.Body)
}

func spoilBytes(b []byte) {
	for i := range room(b) {
		room(b)[i] ^= 255
	}
}

// likeNext: the model's answer, twice; what was lent stays, and no memory is shared; what is made links.
func likeNext(t *testing.T, what string, c api.Chain, e api.Event) ([]byte, api.Chain, api.Errno) {
	t.Helper()
	want, wantChain, wantErr := ownNext(c, e)
	own := lent(e)
	before := toldRoom(own)
	b, behind, f := record.Next(c, own)
	again, behindAgain, g := record.Next(c, own)
	if f != wantErr || g != wantErr || behind != wantChain || behindAgain != wantChain || !bytes.Equal(b, want) || !bytes.Equal(again, want) {
		t.Errorf("%s: Next: %.99x, %v, error %d, not %.99x, %v, error %d: %.300s", what, b, behind, f, want, wantChain, wantErr, toldAll(c, e))
	}
	spoilBytes(again)
	if toldRoom(own) != before || !bytes.Equal(b, want) {
		t.Errorf("%s: Next has changed what was lent, or shares memory: %.300s", what, toldAll(c, e))
	}
	spoil(own)
	if !bytes.Equal(b, want) {
		t.Errorf("%s: Next's record hangs on what was lent: %.300s", what, toldAll(c, e))
	}
	if f == api.OK {
		if ahead, back, g := likeRead(t, what, b); g != api.OK || toldAll(ahead, back) != toldAll(c, e) {
			t.Errorf("%s: read as %.300s, error %d, not as %.300s", what, toldAll(ahead, back), g, toldAll(c, e))
		}
		if x, back, g := likeLink(t, what, c, b); g != api.OK || toldAll(x, back) != toldAll(behind, e) {
			t.Errorf("%s: linked as %.300s, error %d, not as %.300s", what, toldAll(x, back), g, toldAll(behind, e))
		}
	}
	return b, behind, f
}

// likeRead: the model's answer; what is read is made again just so.
func likeRead(t *testing.T, what string, b []byte) (api.Chain, api.Event, api.Errno) {
	t.Helper()
	wantChain, wantEvent, wantErr := ownRead(b)
	c, e, f := lends(t, what+": Read", b, record.Read)
	if f != wantErr || toldAll(c, e) != toldAll(wantChain, wantEvent) {
		t.Errorf("%s: Read: %.300s, error %d, not %.300s, error %d: %.200x", what, toldAll(c, e), f, toldAll(wantChain, wantEvent), wantErr, b)
	}
	if f == api.OK {
		if again, _, g := record.Next(c, e); g != api.OK || !bytes.Equal(again, b) {
			t.Errorf("%s: read, and made again: %.200x, error %d, not %.200x", what, again, g, b)
		}
	}
	return c, e, f
}

// likeLink: the model's answer.
func likeLink(t *testing.T, what string, c api.Chain, b []byte) (api.Chain, api.Event, api.Errno) {
	t.Helper()
	wantChain, wantEvent, wantErr := ownLink(c, b)
	x, e, f := lends(t, what+": Link", b, func(b []byte) (api.Chain, api.Event, api.Errno) { return record.Link(c, b) })
	if f != wantErr || toldAll(x, e) != toldAll(wantChain, wantEvent) {
		t.Errorf("%s: Link: %.300s, error %d, not %.300s, error %d: %v, %.200x", what, toldAll(x, e), f, toldAll(wantChain, wantEvent), wantErr, c, b)
	}
	return x, e, f
}

// lends: what a call answers of bytes; what was lent stays, and no memory is shared.
func lends(t *testing.T, what string, b []byte, call func([]byte) (api.Chain, api.Event, api.Errno)) (api.Chain, api.Event, api.Errno) {
	t.Helper()
	own := roomy(b, '<')
	before := slices.Clone(room(own))
	c, e, f := call(own)
	want := told(e)
	_, again, _ := call(own)
	if told(again) != want {
		t.Errorf("%s: another answer at the second time: %.200x", what, b)
	}
	spoil(again)
	if !bytes.Equal(room(own), before) || told(e) != want {
		t.Errorf("%s: what was lent is changed, or memory is shared: %.200x", what, b)
	}
	spoilBytes(own)
	if told(e) != want {
		t.Errorf("%s: the event hangs on what was lent: %.200x", what, b)
	}
	return c, e, f
}

// refused: Read and Link, behind any chain, answer this error, and nothing beside it.
func refused(t *testing.T, what string, b []byte, want api.Errno) {
	t.Helper()
	nothing := toldAll(api.Chain{}, api.Event{})
	if c, e, f := likeRead(t, what, b); f != want || toldAll(c, e) != nothing {
		t.Errorf("%s: Read: error %d, not %d; beside it %.300s: %.200x", what, f, want, toldAll(c, e), b)
	}
	for _, c := range maybeAhead(b) {
		if x, e, f := likeLink(t, what, c, b); f != want || toldAll(x, e) != nothing {
			t.Errorf("%s: Link behind %v: error %d, not %d; beside it %.300s: %.200x", what, c, f, want, toldAll(x, e), b)
		}
	}
}

// maybeAhead: the chain that bytes tell, as far as they do, and others.
func maybeAhead(b []byte) []api.Chain {
	ahead := api.Chain{}
	copy(ahead.Head[:], b)
	if len(b) >= 40 {
		ahead.Count = int(binary.BigEndian.Uint64(b[32:])) - 1
	}
	other := ahead
	other.Head[31] ^= 1
	return []api.Chain{ahead, other, {}, {Head: ahead.Head}, {Head: ahead.Head, Count: -1}, {Count: ahead.Count}, {Count: endCount}, {Count: -1}}
}
