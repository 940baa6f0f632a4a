package event_test

import (
	"bytes"
	"fmt"
	"math/rand"
	"slices"
	"strings"
	"testing"

	"escheat/api"
	"escheat/event"
)

// refused: Decode answers this error, and nothing beside it.
func refused(t *testing.T, what string, b []byte, want api.Errno) {
	t.Helper()
	e, f := likeDecode(t, what, b)
	if f != want || told(e) != told(api.Event{}) {
		t.Errorf("%s: error %d, not %d; beside it %s: %.200x", what, f, want, short(e), b)
	}
}

// joined: pieces of bytes, one behind the other.
func joined(l ...[]byte) []byte { return slices.Concat(l...) }

// P12.1, P12.2: the chapter's example.
func TestExample(t *testing.T) {
	b, f := likeEncode(t, "the example", api.Event{Kind: api.EvRelease, At: 7, N: 3})
	if f != api.OK || !bytes.Equal(b, []byte{0, 0, 0, 0, 0, 0, 0, 13, 0, 0, 0, 0, 0, 0, 0, 7, 0, 0, 0, 0, 0, 0, 0, 3}) {
		t.Error(b, f)
	}
}

// P12.1: the bytes of each kind, written out.
func TestBytes(t *testing.T) {
	for _, x := range []struct {
		e    api.Event
		want []byte
	}{
		{api.Event{Kind: api.EvCreate, At: 1, Box: "ab"}, joined(nums(1, 1), text("ab"))},
		{api.Event{Kind: api.EvDelete, At: 2, Box: "a/b"}, joined(nums(2, 2), text("a/b"))},
		{api.Event{Kind: api.EvRename, At: 3, Box: "x", To: "yz"}, joined(nums(3, 3), text("x"), text("yz"))},
		{api.Event{Kind: api.EvSubscribe, At: 4, Box: "INBOX"}, joined(nums(4, 4), text("INBOX"))},
		{api.Event{Kind: api.EvForget, At: 5, Box: "c"}, joined(nums(5, 5), text("c"))},
		{api.Event{Kind: api.EvAppend, At: 6, Box: "d", Flags: 31, Date: 9, Body: []byte("m\x00")}, joined(nums(6, 6), text("d"), nums(31, 9), text("m\x00"))},
		{api.Event{Kind: api.EvAppend, Box: "d"}, joined(nums(6, 0), text("d"), nums(0, 0), text(""))},
		{api.Event{Kind: api.EvStore, At: 7, Box: "e", IDs: []int{3, 9}, Mode: 2, Flags: 8}, joined(nums(7, 7), text("e"), nums(2, 3, 9, 2, 8))},
		{api.Event{Kind: api.EvCopy, At: 8, Box: "f", To: "g", IDs: []int{1, 2, top}}, joined(nums(8, 8), text("f"), text("g"), nums(3, 1, 2, top))},
		{api.Event{Kind: api.EvExpunge, At: 9, Box: "h", IDs: []int{4}}, joined(nums(9, 9), text("h"), nums(1, 4))},
		{api.Event{Kind: api.EvRestore, At: 10, N: 11}, nums(10, 10, 11)},
		{api.Event{Kind: api.EvRule, At: 11, Box: "i", N: 60}, joined(nums(11, 11), text("i"), nums(60))},
		{api.Event{Kind: api.EvHold, At: 12, Box: "j", Set: []api.Range{{From: 5, To: 7}, {From: 9}}}, joined(nums(12, 12), text("j"), nums(2, 5, 7, 9, 0))},
		{api.Event{Kind: api.EvHold, At: 12, Box: "j"}, joined(nums(12, 12), text("j"), nums(0))},
		{api.Event{Kind: api.EvRelease, At: endTime, N: endTime}, nums(13, endTime, endTime)},
		{api.Event{Kind: api.EvPurge, At: 14, IDs: []int{6, 7}}, nums(14, 14, 2, 6, 7)},
	} {
		b, f := event.Encode(x.e)
		if f != api.OK || !bytes.Equal(b, x.want) {
			t.Errorf("%s: %x, error %d, not %x", told(x.e), b, f, x.want)
		}
		e, f := event.Decode(x.want)
		if f != api.OK || told(e) != told(x.e) || !event.Same(e, x.e) {
			t.Errorf("%x: %s, error %d, not %s", x.want, told(e), f, told(x.e))
		}
		likeEncode(t, "written out", x.e)
	}
}

// P12.1: each encoding cut short at every byte, and gone on with.
func TestCut(t *testing.T) {
	for _, kind := range kinds() {
		for _, e := range []api.Event{plain(kind), smallest(kind), greatest(kind)} {
			b := ownBytes(e)
			for n := range b {
				refused(t, fmt.Sprint("cut at ", n), b[:n], api.ErrShort)
			}
			for c := range 256 {
				refused(t, fmt.Sprint("gone on with ", c), joined(b, []byte{byte(c)}), api.ErrForm)
			}
			for _, more := range [][]byte{nums(0), nums(1, 2), nums(-1), text("a"), text(""), b, make([]byte, 5000), bytes.Repeat([]byte{255}, 99)} {
				refused(t, "gone on with more", joined(b, more), api.ErrForm)
			}
		}
	}
}

// P12.1, P12.2: each byte of each encoding as any other one.
func TestByteElse(t *testing.T) {
	for _, kind := range kinds() {
		for _, e := range []api.Event{plain(kind), smallest(kind)} {
			b := ownBytes(e)
			for i := range b {
				for turn := 1; turn < 256; turn++ {
					other := slices.Clone(b)
					other[i] ^= byte(turn)
					if back, f := decodes(t, fmt.Sprintf("byte %d as %d", i, other[i]), other); f == api.OK && told(back) == told(e) {
						t.Errorf("byte %d as %d is decoded as the same: %x", i, other[i], other)
					}
				}
			}
		}
		b := ownBytes(greatest(kind))
		for i := range b {
			for _, turn := range []byte{1, 2, 64, 128, 255} {
				other := slices.Clone(b)
				other[i] ^= turn
				decodes(t, fmt.Sprintf("byte %d as %d", i, other[i]), other)
			}
		}
	}
}

// P12.1: bytes left out, put in, or doubled.
func TestBytesElse(t *testing.T) {
	for _, kind := range kinds() {
		b := ownBytes(plain(kind))
		for i := range b {
			for n := 1; n <= 9 && i+n <= len(b); n++ {
				decodes(t, fmt.Sprintf("%d bytes left out at %d", n, i), slices.Delete(slices.Clone(b), i, i+n))
				decodes(t, fmt.Sprintf("%d bytes doubled at %d", n, i), slices.Insert(slices.Clone(b), i, b[i:i+n]...))
				decodes(t, fmt.Sprintf("%d bytes put in at %d", n, i), slices.Insert(slices.Clone(b), i, make([]byte, n)...))
			}
		}
	}
}

// P12.1: a Kind that isn't one is told behind At, whatever stands behind that.
func TestOtherKinds(t *testing.T) {
	for _, kind := range []int{0, 15, 16, 28, 255, 256, 257, 1 << 32, 1<<32 + 1, 1<<32 + 14, 1 << 56, endNum - 1, endNum} {
		for _, at := range []int{0, 7, endTime, endTime + 1, endNum} {
			b := nums(kind, at)
			for n := range b {
				refused(t, fmt.Sprint("another Kind, cut at ", n), b[:n], api.ErrShort)
			}
			for _, more := range [][]byte{nil, {0}, text("a"), text("a")[:3], told5000, nums(3), nums(61), nums(-1), nums(1, 5), joined(text("a"), nums(1, 2, 0, 0)), ownBytes(plain(3))} {
				refused(t, "another Kind", joined(b, more), api.ErrForm)
			}
		}
		for _, at := range []int{endNum + 1, most, -1, least} {
			refused(t, "another Kind, and At beyond numbers", nums(kind, at), api.ErrForm)
		}
	}
	for _, kind := range []int{endNum + 1, most, -1, -14, least, least + 1} {
		for _, more := range [][]byte{nil, {0}, nums(0)[:7], nums(0), nums(7, 3), joined(nums(7), text("a")), nums(-1)} {
			refused(t, "a Kind beyond numbers", joined(nums(kind), more), api.ErrForm)
		}
	}
}

// told5000: the beginning of a text that is told to be too long.
var told5000 = []byte{0, 0, 19, 136}

// P12.1: At is a number of layer 3, first, and a time last of all.
func TestReadAt(t *testing.T) {
	for _, kind := range kinds() {
		rest := ownBytes(plain(kind))[16:]
		for _, at := range []int{endTime + 1, endNum} {
			b := joined(nums(kind, at), rest)
			refused(t, "At that may not be", b, api.ErrForm)
			refused(t, "At that may not be, and what is left", joined(b, []byte{1}), api.ErrForm)
			for n := range b {
				refused(t, "At that may not be, and what is too short", b[:n], api.ErrShort)
			}
		}
		for _, at := range []int{endNum + 1, most, -1, least} {
			for n := range rest {
				refused(t, "At beyond numbers", joined(nums(kind, at), rest[:n]), api.ErrForm)
			}
		}
	}
}

// counted are events with a list, by what stands ahead of the count and behind the list, and how many numbers each element has.
var counted = []struct {
	ahead, behind []byte
	each          int
}{
	{joined(nums(7, 1), text("a")), nums(1, 1), 1},
	{joined(nums(8, 1), text("a"), text("b")), nil, 1},
	{joined(nums(9, 1), text("a")), nil, 1},
	{nums(14, 1), nil, 1},
	{joined(nums(12, 1), text("a")), nil, 2},
}

// P12.1: counts of 60 and 61, of great numbers, and of more and fewer than are there.
func TestCounts(t *testing.T) {
	for i, x := range counted {
		list := func(count, n int) []byte {
			return joined(x.ahead, nums(count), nums(rising(1, 1, n*x.each)...), x.behind)
		}
		for _, n := range []int{1, 2, 59, 60} {
			if e, f := likeDecode(t, "as many as are told", list(n, n)); f != api.OK || len(e.IDs)+len(e.Set) != n {
				t.Errorf("%d: %d: %s, %d", i, n, short(e), f)
			}
		}
		for _, count := range []int{61, 62, 100, 255, 256, 257, 1 << 16, top, 1 << 32, 1<<32 + 1, 1 << 61, endNum} {
			for _, n := range []int{0, 1, 60, 61, 62} {
				refused(t, fmt.Sprint(count, " are told"), list(count, n), api.ErrLong)
			}
			refused(t, fmt.Sprint(count, " are told, and nothing follows"), joined(x.ahead, nums(count)), api.ErrLong)
		}
		for _, count := range []int{endNum + 1, most, -1, -60, least, least + 1} {
			for _, n := range []int{0, 1, 60, 61} {
				refused(t, fmt.Sprint(count, " are told"), list(count, n), api.ErrForm)
			}
		}
		for count := range 61 {
			for _, n := range []int{0, 1, 2, 30, 60, 61} {
				if e, f := likeDecode(t, "more or fewer than are told", list(count, n)); f == api.OK && len(e.IDs)+len(e.Set) != count {
					t.Errorf("%d: %d are told of %d: %s", i, count, n, short(e))
				}
				if n*x.each+len(x.behind)/8 < count*x.each {
					refused(t, "fewer than are told", list(count, n), api.ErrShort)
				}
			}
		}
		for n := range 8 {
			refused(t, "a count that is cut", joined(x.ahead, nums(61)[:n]), api.ErrShort)
		}
	}
	if e, f := likeDecode(t, "no ranges", joined(nums(12, 1), text("a"), nums(0))); f != api.OK || len(e.Set) != 0 {
		t.Errorf("no ranges: %s, %d", told(e), f)
	}
	for _, x := range counted[:4] {
		refused(t, "no IDs", joined(x.ahead, nums(0), x.behind), api.ErrForm)
	}
}

// P12.1: texts that are longer than they may be: to layer 3 (ErrLong, wherever it stands), or to the event (ErrForm, last of all).
func TestLongTexts(t *testing.T) {
	for _, kind := range kinds() {
		for _, part := range ownParts(kind) {
			if !strings.ContainsRune("bty", part) {
				continue
			}
			for _, n := range []int{41, 42, 1999, 2000, 2001, 4095, 4096, 4097, 4098, 65536, 70000} {
				e := plain(kind)
				s := strings.Repeat("n", n)
				switch part {
				case 'b':
					e.Box = s
				case 't':
					e.To = s
				case 'y':
					e.Body = []byte(s)
				}
				longText(t, n, part == 'y' && n <= 2000, ownBytes(e))
			}
		}
	}
	for _, n := range []byte{16, 17, 128, 255} {
		refused(t, "a text told to be great", joined(nums(1, 1), []byte{0, 0, n, 1}), api.ErrLong)
		refused(t, "a text told to be great", joined(nums(1, 1), []byte{n, 0, 0, 0}, text("a")), api.ErrLong)
		refused(t, "a text told to be great", joined(nums(6, 1), text("a"), nums(0, 0), []byte{n, 0, 0, 1}, text("a")), api.ErrLong)
	}
}

// longText: an event's bytes, one of whose texts has n bytes.
func longText(t *testing.T, n int, ok bool, b []byte) {
	t.Helper()
	what := fmt.Sprintf("a text of %d bytes", n)
	switch {
	case ok:
		if _, f := likeDecode(t, what, b); f != api.OK {
			t.Errorf("%s: error %d", what, f)
		}
	case n <= 4096:
		refused(t, what, b, api.ErrForm)
		refused(t, what+", and what is left", joined(b, []byte{0}), api.ErrForm)
		refused(t, what+", and what is too short", b[:len(b)-1], api.ErrShort)
	default:
		refused(t, what, b, api.ErrLong)
		refused(t, what+", and what is left", joined(b, []byte{0}), api.ErrLong)
		refused(t, what+", and what is too short", b[:len(b)-1], api.ErrLong)
	}
}

// P12.1: what is read well but may not be is told last of all errors.
func TestLast(t *testing.T) {
	for _, kind := range kinds() {
		for _, part := range ownParts(kind) {
			for _, x := range edges[part] {
				e := plain(kind)
				x.set(&e)
				b := ownBytes(e)
				if x.ok || e.Mode < 0 || e.Flags < 0 || e.N < 0 || e.Date < 0 || len(b) > 6000 {
					continue
				}
				what := x.what + " may not be"
				refused(t, what+", and is left", joined(b, []byte{0}), ownError(joined(b, []byte{0})))
				for cut := 1; cut <= len(b); cut += 1 + cut/9 {
					refused(t, what+", and is too short", b[:len(b)-cut], ownError(b[:len(b)-cut]))
				}
			}
		}
	}
	for i, x := range []struct {
		b    []byte
		want api.Errno
	}{
		{joined(nums(7, 1), text("inbox"), nums(61)), api.ErrLong},
		{joined(nums(7, 1), text(""), nums(1, 0, 3)), api.ErrShort},
		{joined(nums(7, 1), text(""), nums(1, 0, 3, 32)), api.ErrForm},
		{joined(nums(7, 1), text("a"), nums(1, 1, 3, 1)), api.ErrForm},
		{joined(nums(7, 1), text("a"), nums(1, 1, 0, -1)), api.ErrForm},
		{joined(nums(7, endTime+1), text("a"), nums(61)), api.ErrLong},
		{joined(nums(7, endNum+1), text("a"), nums(61)), api.ErrForm},
		{joined(nums(7, 1), told5000, nums(-1)), api.ErrLong},
		{joined(nums(7, 1), text("a"), nums(-1), told5000), api.ErrForm},
		{joined(nums(7, 1), text("a"), nums(2, -1)), api.ErrForm},
		{joined(nums(7, 1), text("a"), nums(2, top+1)), api.ErrShort},
		{joined(nums(3, 1), text("inbox"), told5000), api.ErrLong},
		{joined(nums(3, 1), text("inbox"), text("b")[:4]), api.ErrShort},
		{joined(nums(3, 1), told5000, text("b")[:4]), api.ErrLong},
		{joined(nums(12, 1), text("inbox"), nums(1, -1)), api.ErrForm},
		{joined(nums(12, 1), text("inbox"), nums(1, top+1)), api.ErrShort},
		{joined(nums(12, 1), text("a"), nums(1, top+1, 0)), api.ErrForm},
		{joined(nums(12, 1), text("a"), nums(1, 0, top+1)), api.ErrForm},
		{joined(nums(6, 1), text("a"), nums(32, endTime+1), text("x")[:4]), api.ErrShort},
		{joined(nums(6, 1), text("a"), nums(32, endTime+1), told5000), api.ErrLong},
		{joined(nums(6, 1), text("a"), nums(-1, endTime+1), told5000), api.ErrForm},
	} {
		refused(t, fmt.Sprint("error ", i), x.b, x.want)
	}
}

// ownError: the model's.
func ownError(b []byte) api.Errno {
	_, f := ownDecode(b)
	return f
}

// P12.1: no bytes at all, and bytes that are all alike.
func TestNoBytes(t *testing.T) {
	refused(t, "none", nil, api.ErrShort)
	refused(t, "no bytes", []byte{}, api.ErrShort)
	for n := 1; n < 100; n++ {
		for _, c := range []byte{0, 1, 255} {
			_, f := likeDecode(t, "all alike", bytes.Repeat([]byte{c}, n))
			if f == api.OK || n < 8 && f != api.ErrShort {
				t.Errorf("%d bytes %d: error %d", n, c, f)
			}
		}
	}
	decodes(t, "very many", make([]byte, 10000000))
	decodes(t, "very many", joined(ownBytes(plain(api.EvAppend)), make([]byte, 10000000)))
}

// P12.2: bytes by chance: whatever is decoded has just those bytes.
func TestBytesByChance(t *testing.T) {
	r := rand.New(rand.NewSource(37))
	pieces := [][]byte{text("a"), text("INBOX"), text("b/c"), text("inbox"), text(""), nums(0), nums(1), nums(1), nums(2), nums(3), nums(60), nums(1, 1), nums(2, 1, 2), nums(31), nums(top + 1), nums(-1), {0}, {0, 0, 0, 1}}
	good := 0
	for range 200000 {
		b := nums(1+r.Intn(15), r.Intn(9))
		for range r.Intn(5) {
			b = append(b, pieces[r.Intn(len(pieces))]...)
		}
		if _, f := decodes(t, "by chance", b); f == api.OK {
			good++
		}
	}
	if good < 2000 {
		t.Error("too few are decoded:", good)
	}
	for range 20000 {
		b := make([]byte, r.Intn(60))
		r.Read(b)
		decodes(t, "by chance", b)
	}
}

// P12.2: of two events that aren't the same the bytes aren't, either.
func TestUnlikeBytes(t *testing.T) {
	seen := map[string]string{}
	for _, kind := range kinds() {
		for _, part := range ownParts(kind) {
			for _, x := range edges[part] {
				for _, e := range []api.Event{plain(kind), smallest(kind), greatest(kind)} {
					if x.set(&e); !x.ok {
						continue
					}
					b, _ := event.Encode(e)
					if was, ok := seen[string(b)]; ok && was != told(e) {
						t.Errorf("%x: both %s and %s", b, was, told(e))
					}
					seen[string(b)] = told(e)
				}
			}
		}
	}
}

// P12.1: what is handed in and what is answered are apart: writing into the one changes nothing of the other.
func TestApart(t *testing.T) {
	for _, kind := range kinds() {
		e := lent(plain(kind))
		b, _ := event.Encode(e)
		was := slices.Clone(b)
		spoil(e)
		if !bytes.Equal(b, was) {
			t.Errorf("%d: the bytes hang on the event", kind)
		}
		one, _ := event.Decode(b)
		two, _ := event.Decode(b)
		spoilBytes(b)
		spoil(one)
		if want := plain(kind); told(two) != told(want) {
			t.Errorf("%d: %s, not %s", kind, told(two), told(want))
		}
	}
}
