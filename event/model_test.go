package event_test

import (
	"bytes"
	"encoding/binary"
	"fmt"
	"regexp"
	"slices"
	"strings"
	"testing"

	"escheat/api"
	"escheat/event"
)

// What the chapter's words say, in the tests' own way: a part knows the kinds that have it, names are a library's pattern, bytes are laid and read by their places, and events are the same if they are told by the same text.

const (
	least   = -1 << 63
	most    = 1<<63 - 1
	top     = 4294967295    // the greatest number of a message
	endTime = 1099511627776 // the last second
	endNum  = 1 << 62       // the greatest number that has bytes
	order   = "btismfdny"   // of the parts
)

// kindsOf are the kinds that have a part.
var kindsOf = map[rune][]int{
	'b': {1, 2, 3, 4, 5, 6, 7, 8, 9, 11, 12},
	't': {3, 8},
	'i': {7, 8, 9, 14},
	's': {12},
	'm': {7},
	'f': {6, 7},
	'd': {6},
	'n': {10, 11, 13},
	'y': {6},
}

var aName = regexp.MustCompile(`\A[!#$&'+-.0-\[\]-z|}~]+(/[!#$&'+-.0-\[\]-z|}~]+){0,3}\z`)

func has(kind int, part rune) bool { return slices.Contains(kindsOf[part], kind) }

func ownParts(kind int) string {
	s := ""
	for _, part := range order {
		if has(kind, part) {
			s += string(part)
		}
	}
	return s
}

func ownName(s string) bool {
	top, _, _ := strings.Cut(s, "/")
	return len(s) < 41 && aName.MatchString(s) && (top == "INBOX" || strings.ToUpper(top) != "INBOX")
}

func ownIDs(l []int) bool {
	ok := len(l) > 0 && len(l) < 61
	for i, n := range l {
		ok = ok && n > 0 && n < top+1
		for _, behind := range l[i+1:] {
			ok = ok && n < behind
		}
	}
	return ok
}

func ownSet(l []api.Range) bool {
	ok := len(l) < 61
	for _, r := range l {
		ok = ok && min(r.From, r.To) > -1 && max(r.From, r.To) < top+1
	}
	return ok
}

func ownTime(n int) bool { return n > -1 && n < endTime+1 }

func ownRight(e api.Event) bool {
	right := e.Kind > 0 && e.Kind < 15 && ownTime(e.At)
	for _, x := range []struct {
		part     rune
		ok, zero bool
	}{
		{'b', ownName(e.Box), e.Box == ""},
		{'t', ownName(e.To), e.To == ""},
		{'i', len(e.IDs) < 100 && ownIDs(e.IDs), len(e.IDs) == 0},
		{'s', ownSet(e.Set), len(e.Set) == 0},
		{'m', e.Mode > -1 && e.Mode < 3, e.Mode == 0},
		{'f', e.Flags > -1 && e.Flags < 32, e.Flags == 0},
		{'d', ownTime(e.Date), e.Date == 0},
		{'n', ownTime(e.N), e.N == 0},
		{'y', len(e.Body) < 2001, len(e.Body) == 0},
	} {
		right = right && (has(e.Kind, x.part) && x.ok || !has(e.Kind, x.part) && x.zero)
	}
	return right
}

// nums: the bytes of numbers, whether they may be or not.
func nums(l ...int) []byte {
	var b []byte
	for _, n := range l {
		b = binary.BigEndian.AppendUint64(b, uint64(n))
	}
	return b
}

// text: the bytes of a text, whether it may be or not.
func text(s string) []byte {
	return append(binary.BigEndian.AppendUint32(nil, uint32(len(s))), s...)
}

func ranges(l []api.Range) []byte {
	b := nums(len(l))
	for _, r := range l {
		b = append(b, nums(r.From, r.To)...)
	}
	return b
}

// ownBytes: an event's bytes, whether it may be or not.
func ownBytes(e api.Event) []byte {
	b := nums(e.Kind, e.At)
	for _, x := range []struct {
		part rune
		b    []byte
	}{
		{'b', text(e.Box)}, {'t', text(e.To)}, {'i', nums(append([]int{len(e.IDs)}, e.IDs...)...)}, {'s', ranges(e.Set)},
		{'m', nums(e.Mode)}, {'f', nums(e.Flags)}, {'d', nums(e.Date)}, {'n', nums(e.N)}, {'y', text(string(e.Body))},
	} {
		if has(e.Kind, x.part) {
			b = append(b, x.b...)
		}
	}
	return b
}

// reading is what is left of bytes, and the first error.
type reading struct {
	left []byte
	e    api.Errno
}

func (p *reading) num() int {
	switch {
	case p.e != api.OK:
	case len(p.left) < 8:
		p.e = api.ErrShort
	case binary.BigEndian.Uint64(p.left) > endNum:
		p.e = api.ErrForm
	default:
		n := binary.BigEndian.Uint64(p.left)
		p.left = p.left[8:]
		return int(n)
	}
	return 0
}

func (p *reading) text() string {
	switch {
	case p.e != api.OK:
	case len(p.left) < 4:
		p.e = api.ErrShort
	case binary.BigEndian.Uint32(p.left) > 4096:
		p.e = api.ErrLong
	case len(p.left)-4 < int(binary.BigEndian.Uint32(p.left)):
		p.e = api.ErrShort
	default:
		n := binary.BigEndian.Uint32(p.left) + 4
		s := string(p.left[4:n])
		p.left = p.left[n:]
		return s
	}
	return ""
}

func (p *reading) count() int {
	n := p.num()
	if p.e == api.OK && n > 60 {
		p.e = api.ErrLong
		return 0
	}
	return n
}

func (p *reading) part(e *api.Event, part rune) {
	switch part {
	case 'b':
		e.Box = p.text()
	case 't':
		e.To = p.text()
	case 'i':
		e.IDs = make([]int, p.count())
		for i := range e.IDs {
			e.IDs[i] = p.num()
		}
	case 's':
		e.Set = make([]api.Range, p.count())
		for i := range e.Set {
			e.Set[i].From = p.num()
			e.Set[i].To = p.num()
		}
	case 'y':
		e.Body = []byte(p.text())
	default:
		*map[rune]*int{'m': &e.Mode, 'f': &e.Flags, 'd': &e.Date, 'n': &e.N}[part] = p.num()
	}
}

func ownDecode(b []byte) (api.Event, api.Errno) {
	p, e := &reading{left: b}, api.Event{}
	e.Kind = p.num()
	e.At = p.num()
	if p.e == api.OK && (e.Kind < 1 || e.Kind > 14) {
		p.e = api.ErrForm
	}
	for _, part := range order {
		if has(e.Kind, part) {
			p.part(&e, part)
		}
	}
	if p.e == api.OK && (len(p.left) > 0 || !ownRight(e)) {
		p.e = api.ErrForm
	}
	if p.e != api.OK {
		return api.Event{}, p.e
	}
	return e, api.OK
}

func told(e api.Event) string {
	return fmt.Sprintf("kind %d at %d: %q %q %d %d %d %d %d %d %q", e.Kind, e.At, e.Box, e.To, e.IDs, e.Set, e.Mode, e.Flags, e.Date, e.N, e.Body)
}

// short: as much of an event as a failing test tells.
func short(e api.Event) string { return fmt.Sprintf("%.300s", told(e)) }

// roomy: the same list, in memory of its own, with spare room behind it.
func roomy[T any](l []T, spare T) []T {
	if l == nil {
		return nil
	}
	return slices.Concat(l, []T{spare, spare})[:len(l)]
}

func room[T any](l []T) []T { return l[:cap(l)] }

// lent: the same event, in memory of its own, with spare room behind each of its lists.
func lent(e api.Event) api.Event {
	e.IDs, e.Set, e.Body = roomy(e.IDs, 77), roomy(e.Set, api.Range{From: 7, To: 8}), roomy(e.Body, '<')
	return e
}

// toldRoom: an event with all its spare room.
func toldRoom(e api.Event) string {
	s := fmt.Sprint(len(e.IDs), len(e.Set), len(e.Body))
	e.IDs, e.Set, e.Body = room(e.IDs), room(e.Set), room(e.Body)
	return s + told(e)
}

// spoil: each byte of the lists of an event is another one, in the spare room too.
func spoil(e api.Event) {
	for i := range room(e.IDs) {
		room(e.IDs)[i] += 1000
	}
	for i := range room(e.Set) {
		room(e.Set)[i].From -= 1000
		room(e.Set)[i].To += 1000
	}
	spoilBytes(e.Body)
}

func spoilBytes(b []byte) {
	for i := range room(b) {
		room(b)[i] ^= 255
	}
}

// rightIs: an event may be, or not, and Encode goes by that.
func rightIs(t *testing.T, what string, e api.Event, want bool) {
	t.Helper()
	own := lent(e)
	before := toldRoom(own)
	if got, model := event.Right(own), ownRight(e); got != want || model != want {
		t.Errorf("%s: Right %t, the model %t, not %t: %s", what, got, model, want, short(e))
	}
	if toldRoom(own) != before {
		t.Errorf("%s: Right has changed what was lent: %s", what, short(e))
	}
	likeEncode(t, what, e)
	likeSame(t, e, e)
}

// likeEncode: the model's answer, twice; what was lent stays, and no memory is shared; what is encoded is decoded as it was.
func likeEncode(t *testing.T, what string, e api.Event) ([]byte, api.Errno) {
	t.Helper()
	want, wantErr := []byte(nil), api.ErrArg
	if ownRight(e) {
		want, wantErr = ownBytes(e), api.OK
	}
	own := lent(e)
	before := toldRoom(own)
	b, f := event.Encode(own)
	again, g := event.Encode(own)
	if f != wantErr || g != wantErr || !bytes.Equal(b, want) || !bytes.Equal(again, want) {
		t.Errorf("%s: Encode: %.200x, error %d, not %.200x, error %d: %s", what, b, f, want, wantErr, short(e))
	}
	spoilBytes(again)
	if toldRoom(own) != before || !bytes.Equal(b, want) {
		t.Errorf("%s: Encode has changed what was lent, or shares memory: %s", what, short(e))
	}
	spoil(own)
	if !bytes.Equal(b, want) {
		t.Errorf("%s: Encode's bytes hang on what was lent: %s", what, short(e))
	}
	if f == api.OK {
		if back, g := likeDecode(t, what, b); g != api.OK || told(back) != told(e) {
			t.Errorf("%s: decoded as %s, error %d, not as %s", what, short(back), g, short(e))
		}
	}
	return b, f
}

// decodes: Decode answers as the model; what is decoded has just those bytes.
func decodes(t *testing.T, what string, b []byte) (api.Event, api.Errno) {
	t.Helper()
	e, f := event.Decode(b)
	want, wantErr := ownDecode(b)
	if f != wantErr || told(e) != told(want) {
		t.Errorf("%s: Decode: %s, error %d, not %s, error %d: %.200x", what, short(e), f, short(want), wantErr, b)
	}
	if f == api.OK {
		if back, g := event.Encode(e); g != api.OK || !bytes.Equal(back, b) {
			t.Errorf("%s: decoded, and encoded again: %.200x, error %d, not %.200x", what, back, g, b)
		}
	}
	return e, f
}

// likeDecode: likewise; what was lent stays, and no memory is shared.
func likeDecode(t *testing.T, what string, b []byte) (api.Event, api.Errno) {
	t.Helper()
	own := roomy(b, '<')
	before := slices.Clone(room(own))
	e, f := decodes(t, what, own)
	want := told(e)
	again, _ := event.Decode(own)
	spoil(again)
	if !bytes.Equal(room(own), before) || told(e) != want {
		t.Errorf("%s: Decode has changed what was lent, or shares memory: %.200x", what, b)
	}
	spoilBytes(own)
	if told(e) != want {
		t.Errorf("%s: Decode's event hangs on what was lent: %.200x", what, b)
	}
	return e, f
}

// likeSame: whichever is first, they are the same just if they are told by one text.
func likeSame(t *testing.T, a, b api.Event) bool {
	t.Helper()
	c, d := lent(a), lent(b)
	before := toldRoom(c) + toldRoom(d)
	want := told(a) == told(b)
	if event.Same(c, d) != want || event.Same(d, c) != want {
		t.Errorf("Same: not %t, of %s and %s", want, short(a), short(b))
	}
	if toldRoom(c)+toldRoom(d) != before {
		t.Errorf("Same has changed what was lent: %s and %s", short(a), short(b))
	}
	return want
}
