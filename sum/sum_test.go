package sum_test

import (
	"bytes"
	"math"
	"slices"
	"testing"

	"escheat/sum"
)

const polynomial = 0xedb88320

// plain: what the chapter's words say, bit by bit, of what is kept and bytes behind it.
func plain(kept uint32, b []byte) uint32 {
	for _, c := range b {
		kept ^= uint32(c)
		for range 8 {
			lowest := kept & 1
			kept >>= 1
			if lowest == 1 {
				kept ^= polynomial
			}
		}
	}
	return kept
}

func plainSum(b []byte) uint32 { return ^plain(0xffffffff, b) }

// of: four bytes that have the sum s: the chapter's steps, taken back from the last one on.
func of(s uint32) []byte {
	kept := ^s
	for range 32 {
		if kept>>31 == 1 {
			kept = (kept^polynomial)<<1 | 1
		} else {
			kept <<= 1
		}
	}
	kept ^= 0xffffffff
	return []byte{byte(kept), byte(kept >> 8), byte(kept >> 16), byte(kept >> 24)}
}

// text: n bytes of all sorts, others for each seed.
func text(n int, seed uint32) []byte {
	b := make([]byte, n)
	for i := range b {
		seed = seed*1664525 + 1013904223
		b[i] = byte(seed >> 24)
	}
	return b
}

// sums: sums to go on from, the outermost ones among them.
func sums() []uint32 {
	l := []uint32{0, 1, 2, 0x7fffffff, 0x80000000, 0x80000001, math.MaxUint32 - 1, math.MaxUint32, polynomial, 0xcbf43926}
	for bit := range 32 {
		l = append(l, 1<<bit)
	}
	for s := uint32(7); len(l) < 200; s = s*1664525 + 1013904223 {
		l = append(l, s)
	}
	return l
}

// expect: b has the sum want, by each of the calls.
func expect(t *testing.T, b []byte, want uint32) {
	t.Helper()
	if x := sum.Sum(b); x != want {
		t.Errorf("Sum of %.40q, %d bytes: %08x, not %08x", b, len(b), x, want)
	}
	if x := sum.Join(b); x != want {
		t.Errorf("Join of %.40q, %d bytes: %08x, not %08x", b, len(b), x, want)
	}
	if x := sum.More(0, b); x != want {
		t.Errorf("More of 0 and %.40q, %d bytes: %08x, not %08x", b, len(b), x, want)
	}
}

// P2.1: the chapter's example, and sums that are known elsewhere.
func TestKnown(t *testing.T) {
	for b, want := range map[string]uint32{
		"123456789": 0xcbf43926,
		"":          0,
		"a":         0xe8b7be43,
		"abc":       0x352441c2,
		"The quick brown fox jumps over the lazy dog": 0x414fa339,
		"\x00":                                0xd202ef8d,
		"\xff":                                0xff000000,
		string(make([]byte, 32)):              0x190a55ad,
		string(bytes.Repeat([]byte{255}, 32)): 0xff6cab0b,
	} {
		expect(t, []byte(b), want)
	}
}

// P2.1: one byte of each value, and two.
func TestEachByte(t *testing.T) {
	for x := range 256 {
		b := []byte{byte(x)}
		expect(t, b, plainSum(b))
		for y := range 256 {
			b := []byte{byte(x), byte(y)}
			expect(t, b, plainSum(b))
		}
	}
}

// P2.1: texts of each length up to some hundred, and of some thousand bytes.
func TestLengths(t *testing.T) {
	for n := range 300 {
		expect(t, text(n, uint32(n)), plainSum(text(n, uint32(n))))
		expect(t, make([]byte, n), plainSum(make([]byte, n)))
	}
	for _, n := range []int{1000, 2000, 4095, 4096, 4097, 6000, 9999, 65537} {
		expect(t, text(n, uint32(n)), plainSum(text(n, uint32(n))))
		expect(t, make([]byte, n), plainSum(make([]byte, n)))
		expect(t, bytes.Repeat([]byte{255}, n), plainSum(bytes.Repeat([]byte{255}, n)))
	}
}

// P2.1: no bytes, however none are told.
func TestNothing(t *testing.T) {
	for _, b := range [][]byte{nil, {}, make([]byte, 0, 9), []byte("123")[3:]} {
		expect(t, b, 0)
	}
	for i, l := range [][][]byte{nil, {}, {nil}, {{}}, {nil, {}, nil}, make([][]byte, 1000)} {
		if x := sum.Join(l...); x != 0 {
			t.Errorf("Join of nothing, %d: %08x", i, x)
		}
	}
	if x := sum.Join(); x != 0 {
		t.Errorf("Join: %08x", x)
	}
	for _, s := range sums() {
		if sum.More(s, nil) != s || sum.More(s, []byte{}) != s {
			t.Errorf("More of %08x and nothing", s)
		}
	}
}

// P2.1: bytes behind what has any sum.
func TestMoreBehindAny(t *testing.T) {
	for _, s := range sums() {
		before := of(s)
		expect(t, before, s)
		for _, b := range [][]byte{{0}, {1}, {127}, {128}, {255}, []byte("123456789"), text(64, s), text(3000, s)} {
			want := plainSum(slices.Concat(before, b))
			if x := sum.More(s, b); x != want {
				t.Errorf("More of %08x and %d bytes: %08x, not %08x", s, len(b), x, want)
			}
		}
	}
}

// P2.1: pieces stand one behind the other, in their order, each as often as it is told.
func TestJoinOrder(t *testing.T) {
	a, b, c := []byte("one"), []byte("two!"), []byte{0, 255}
	for _, l := range [][][]byte{{a, b}, {b, a}, {a, b, c}, {c, b, a}, {a, a}, {a, a, a}, {c, c, b, b}, {a, nil, b}, {nil, a, {}}, {{}, {}, c}} {
		if x, want := sum.Join(l...), plainSum(slices.Concat(l...)); x != want {
			t.Errorf("Join of %q: %08x, not %08x", l, x, want)
		}
	}
	if sum.Join(a, b) == sum.Join(b, a) {
		t.Error("the order changes nothing")
	}
}

// P2.2: two pieces, cut at each place.
func TestEachCut(t *testing.T) {
	for _, n := range []int{0, 1, 2, 9, 64, 65, 3000} {
		b := text(n, 5)
		want := plainSum(b)
		for at := range n + 1 {
			left, right := b[:at], b[at:]
			if x := sum.Join(left, right); x != want {
				t.Fatalf("Join of %d bytes, cut at %d: %08x, not %08x", n, at, x, want)
			}
			if x := sum.More(sum.Sum(left), right); x != want {
				t.Fatalf("More of %d bytes, cut at %d: %08x, not %08x", n, at, x, want)
			}
		}
	}
}

// P2.2: a text of ten bytes, cut in each way there is, with empty pieces between or without.
func TestAllCuts(t *testing.T) {
	b := text(10, 6)
	want := plainSum(b)
	for cuts := range 1 << 9 {
		var pieces, loose [][]byte
		first, more := 0, uint32(0)
		for at := 1; at <= len(b); at++ {
			if at == len(b) || cuts>>(at-1)&1 == 1 {
				pieces = append(pieces, b[first:at])
				loose = append(loose, nil, b[first:at], []byte{})
				more = sum.More(more, b[first:at])
				first = at
			}
		}
		if x := sum.Join(pieces...); x != want {
			t.Errorf("Join of %q: %08x, not %08x", pieces, x, want)
		}
		if x := sum.Join(loose...); x != want {
			t.Errorf("Join of %q: %08x, not %08x", loose, x, want)
		}
		if more != want {
			t.Errorf("More of %q: %08x, not %08x", pieces, more, want)
		}
	}
}

// P2.2: some thousand bytes in pieces of one size, down to one byte each.
func TestManyPieces(t *testing.T) {
	b := text(5000, 7)
	want := plainSum(b)
	for _, size := range []int{1, 2, 3, 7, 63, 64, 65, 999, 4999, 5000} {
		pieces := slices.Collect(slices.Chunk(b, size))
		more := uint32(0)
		for _, p := range pieces {
			more = sum.More(more, p)
		}
		if x := sum.Join(pieces...); x != want || more != want {
			t.Errorf("pieces of %d: Join %08x, More %08x, not %08x", size, x, more, want)
		}
	}
}

// P2.2: each byte of a short text, as each other one: no two of these texts have one sum.
func TestOneByteElse(t *testing.T) {
	for _, b := range [][]byte{{0}, []byte("123456789"), make([]byte, 20), text(70, 8)} {
		for at := range b {
			met := map[uint32]int{}
			for x := range 256 {
				other := slices.Clone(b)
				other[at] = byte(x)
				s := sum.Sum(other)
				if y, is := met[s]; is {
					t.Errorf("%d bytes, at %d: %d has the sum of %d", len(b), at, x, y)
				}
				met[s] = x
			}
		}
	}
}

// P2.2: one byte that is another one, anywhere in some thousand bytes, by each of the calls.
func TestOneByteElseInLong(t *testing.T) {
	b := text(2500, 9)
	was := sum.Sum(b)
	half := sum.Sum(b[:1250])
	for at := range b {
		for _, turn := range []byte{1, 128, 255} {
			b[at] ^= turn
			if sum.Sum(b) == was || sum.Join(b[:1000], b[1000:]) == was {
				t.Errorf("at %d, %d turned: the same sum", at, turn)
			}
			if at >= 1250 && sum.More(half, b[1250:]) == was {
				t.Errorf("at %d, %d turned: More has the same sum", at, turn)
			}
			b[at] ^= turn
		}
	}
	if sum.Sum(b) != was {
		t.Error("turned back: another sum")
	}
}

// P2.1: what is handed in is not changed, its spare room neither, and a call hangs on its arguments alone.
func TestArgumentsStay(t *testing.T) {
	room := text(40, 10)
	was := slices.Clone(room)
	list := [][]byte{room[:10], nil, room[10:20:20], room[5:15], {}}
	first := []uint32{sum.Sum(room[:20]), sum.Join(list[:3]...), sum.More(77, room[:20])}
	again := []uint32{sum.Sum(room[:20]), sum.Join(list[:3]...), sum.More(77, room[:20])}
	if !slices.Equal(first, again) {
		t.Errorf("%08x, and then %08x", first, again)
	}
	if !bytes.Equal(room, was) {
		t.Error("the bytes are changed")
	}
	if len(list) != 5 || list[1] != nil || &list[0][0] != &room[0] || &list[2][0] != &room[10] || &list[3][0] != &room[5] || list[4] == nil {
		t.Error("the list is changed")
	}
}
