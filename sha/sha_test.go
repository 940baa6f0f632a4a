package sha_test

import (
	"bytes"
	"math"
	"math/big"
	"slices"
	"strings"
	"testing"

	"escheat/sha"
)

// primes: the first so many.
func primes(n int) []int64 {
	var l []int64
	for p := int64(2); len(l) < n; p++ {
		if !slices.ContainsFunc(l, func(q int64) bool { return p%q == 0 }) {
			l = append(l, p)
		}
	}
	return l
}

// behindPoint: the first 32 bits behind the point of the nth root of p.
func behindPoint(p int64, n int) uint32 {
	// The root times 2^32, cut to a whole number, is the greatest whose nth power isn't above p times 2^32n.
	most := new(big.Int).Lsh(big.NewInt(p), uint(32*n))
	root := int64(0)
	for bit := 40; bit >= 0; bit-- {
		x := root | 1<<bit
		if new(big.Int).Exp(big.NewInt(x), big.NewInt(int64(n)), nil).Cmp(most) <= 0 {
			root = x
		}
	}
	return uint32(root)
}

// first: the first eight words, from the square roots.
var first = func() (h [8]uint32) {
	for i, p := range primes(8) {
		h[i] = behindPoint(p, 2)
	}
	return h
}()

// cubes: the 64 constants, from the cube roots.
var cubes = func() (k [64]uint32) {
	for i, p := range primes(64) {
		k[i] = behindPoint(p, 3)
	}
	return k
}()

func right(x uint32, n int) uint32 { return x>>n | x<<(32-n) }

// plainStep: what the chapter's words say of a block's step.
func plainStep(h [8]uint32, block [64]byte) [8]uint32 {
	var w [64]uint32
	for t := range w {
		if t < 16 {
			b := block[4*t:]
			w[t] = uint32(b[0])<<24 | uint32(b[1])<<16 | uint32(b[2])<<8 | uint32(b[3])
			continue
		}
		x, y := w[t-15], w[t-2]
		s0 := right(x, 7) ^ right(x, 18) ^ (x >> 3)
		s1 := right(y, 17) ^ right(y, 19) ^ (y >> 10)
		w[t] = s1 + w[t-7] + s0 + w[t-16]
	}
	v := h
	for t := range w {
		big1 := right(v[4], 6) ^ right(v[4], 11) ^ right(v[4], 25)
		big0 := right(v[0], 2) ^ right(v[0], 13) ^ right(v[0], 22)
		t1 := v[7] + big1 + ((v[4] & v[5]) ^ (^v[4] & v[6])) + cubes[t] + w[t]
		t2 := big0 + ((v[0] & v[1]) ^ (v[0] & v[2]) ^ (v[1] & v[2]))
		v[7], v[6], v[5] = v[6], v[5], v[4]
		v[4] = v[3] + t1
		v[3], v[2], v[1] = v[2], v[1], v[0]
		v[0] = t1 + t2
	}
	for i := range v {
		v[i] += h[i]
	}
	return v
}

// plainPad: what the chapter's words say of padded bytes: as few of 0 as will do.
func plainPad(b []byte) []byte {
	for zeros := 0; ; zeros++ {
		if (len(b)+1+zeros+8)%64 != 0 {
			continue
		}
		p := slices.Concat(b, []byte{0x80}, make([]byte, zeros))
		bits := uint64(len(b)) * 8
		for i := range 8 {
			p = append(p, byte(bits>>(56-8*i)))
		}
		return p
	}
}

// flat: the words' bytes, the highest first.
func flat(h [8]uint32) (b [32]byte) {
	for i, x := range h {
		b[4*i], b[4*i+1], b[4*i+2], b[4*i+3] = byte(x>>24), byte(x>>16), byte(x>>8), byte(x)
	}
	return b
}

func plainSum(b []byte) [32]byte {
	h := first
	for p := plainPad(b); len(p) > 0; p = p[64:] {
		h = plainStep(h, [64]byte(p))
	}
	return flat(h)
}

// steps: the steps of the padded blocks, one behind the other, by the package's own calls.
func steps(b []byte) [32]byte {
	h := first
	for p := sha.Pad(b); len(p) >= 64; p = p[64:] {
		h = sha.Step(h, [64]byte(p))
	}
	return flat(h)
}

// text: n bytes of all sorts, others for each seed.
func text(n int, seed uint32) []byte {
	b := make([]byte, n)
	for i := range b {
		seed = seed*1664525 + 1013904223
		b[i] = byte(seed >> 24)
	}
	return b
}

// words: eight of all sorts, others for each seed.
func words(seed uint32) (h [8]uint32) {
	for i := range h {
		b := text(4, seed+uint32(i)*977)
		h[i] = uint32(b[0])<<24 | uint32(b[1])<<16 | uint32(b[2])<<8 | uint32(b[3])
	}
	return h
}

// expect: b has the sum want, by each of the calls, and by the steps of its blocks.
func expect(t *testing.T, b []byte, want [32]byte) {
	t.Helper()
	if x := sha.Sum(b); x != want {
		t.Errorf("Sum of %.40q, %d bytes: %x, not %x", b, len(b), x, want)
	}
	if x := sha.Join(b); x != want {
		t.Errorf("Join of %.40q, %d bytes: %x, not %x", b, len(b), x, want)
	}
	if x := steps(b); x != want {
		t.Errorf("steps of %.40q, %d bytes: %x, not %x", b, len(b), x, want)
	}
}

// P4.1: the chapter's examples, and sums that are published.
func TestKnown(t *testing.T) {
	for b, want := range map[string]string{
		"abc":      "ba7816bf8f01cfea414140de5dae2223b00361a396177a9cb410ff61f20015ad",
		"":         "e3b0c44298fc1c149afbf4c8996fb92427ae41e4649b934ca495991b7852b855",
		"\xbd":     "68325720aabd7c82f30f554b313d0570c95accbb7dc4b5aae11204c08ffe732b",
		"\xd3":     "28969cdfa74a12c82f3bad960b0b000aca2ac329deea5c2328ebc6f2ba9802c1",
		"\x11\xaf": "5ca7133fa735326081558ac312c620eeca9970d1e70a4b95533d956f072d1f98",
		"abcdbcdecdefdefgefghfghighijhijkijkljklmklmnlmnomnopnopq":                                                         "248d6a61d20638b8e5c026930c3e6039a33ce45964ff2167f6ecedd419db06c1",
		"abcdefghbcdefghicdefghijdefghijkefghijklfghijklmghijklmnhijklmnoijklmnopjklmnopqklmnopqrlmnopqrsmnopqrstnopqrstu": "cf5b16a778af8380036ce59e7b0492370b249b11e8f07a51afac45037afee9d1",
		"The quick brown fox jumps over the lazy dog":                                                                      "d7a8fbb307d7809469ca9abcb0082e4f8d5651e46d3cdb762d02d0bf37c9e592",
		"The quick brown fox jumps over the lazy dog.":                                                                     "ef537f25c895bfa782526529a9b63d97aa631564d5d789c2b765448c8635fb6c",
		strings.Repeat("\x00", 55):                                                                                         "02779466cdec163811d078815c633f21901413081449002f24aa3e80f0b88ef7",
		strings.Repeat("\x00", 56):                                                                                         "d4817aa5497628e7c77e6b606107042bbba3130888c5f47a375e6179be789fbb",
		strings.Repeat("\x00", 57):                                                                                         "65a16cb7861335d5ace3c60718b5052e44660726da4cd13bb745381b235a1785",
		strings.Repeat("\x00", 64):                                                                                         "f5a5fd42d16a20302798ef6ed309979b43003d2320d9f0e8ea9831a92759fb4b",
		strings.Repeat("\x00", 1000):                                                                                       "541b3e9daa09b20bf85fa273e5cbd3e80185aa4ec298e765db87742b70138a53",
		strings.Repeat("A", 1000):                                                                                          "c2e686823489ced2017f6059b8b239318b6364f6dcd835d0a519105a1eadd6e4",
		strings.Repeat("U", 1005):                                                                                          "f4d62ddec0f3dd90ea1380fa16a5ff8dc4c54b21740650f24afc4120903552b0",
		strings.Repeat("a", 1000000):                                                                                       "cdc76e5c9914fb9281a1c7e284d73e67f1809a48a497200e046d39ccc7112cd0",
		strings.Repeat("\x00", 1000000):                                                                                    "d29751f2649b32ff572b5e0a9f541ea660a50f94ff0beedfb0b692b924cc8025",
	} {
		if x := sha.Text(sha.Sum([]byte(b))); x != want {
			t.Errorf("%.40q, %d bytes: %s, not %s", b, len(b), x, want)
		}
		expect(t, []byte(b), plainSum([]byte(b)))
	}
}

// P4.1: each of the first eight words is there from the first block on, and each of the 64 constants in its round, as the roots have them.
func TestRoots(t *testing.T) {
	if first[0] != 0x6a09e667 || first[7] != 0x5be0cd19 || cubes[0] != 0x428a2f98 || cubes[63] != 0xc67178f2 {
		t.Fatalf("the test's own roots: %08x, %08x", first, cubes)
	}
	// With all of 0 handed in, what is left are the constants alone.
	if x, want := sha.Step([8]uint32{}, [64]byte{}), plainStep([8]uint32{}, [64]byte{}); x != want {
		t.Errorf("the constants: %08x, not %08x", x, want)
	}
	for n := range 56 {
		block := [64]byte(plainPad(text(n, uint32(n))))
		if x := sha.Sum(text(n, uint32(n))); x != flat(sha.Step(first, block)) || x != flat(plainStep(first, block)) {
			t.Errorf("the first words, %d bytes: %x", n, x)
		}
	}
}

// P4.1: one byte of each value: alone, at some place of a block, and as all bytes of texts around a block's end.
func TestEachByte(t *testing.T) {
	for x := range 256 {
		expect(t, []byte{byte(x)}, plainSum([]byte{byte(x)}))
		for _, n := range []int{2, 55, 56, 63, 64, 65, 130} {
			b := bytes.Repeat([]byte{byte(x)}, n)
			expect(t, b, plainSum(b))
		}
		b := text(64, 3)
		b[x%64] = byte(x)
		expect(t, b, plainSum(b))
	}
}

// P4.1, P4.2: texts of each length up to some hundred, so that padding ends at, just before and just behind a block's end, and of some thousand bytes.
func TestLengths(t *testing.T) {
	for n := range 400 {
		for _, b := range [][]byte{text(n, uint32(n)), make([]byte, n), bytes.Repeat([]byte{255}, n), bytes.Repeat([]byte{0x80}, n)} {
			expect(t, b, plainSum(b))
		}
	}
	for _, n := range []int{1000, 2000, 4095, 4096, 4097, 6000, 8191, 8192, 8193, 65535, 65536} {
		expect(t, text(n, uint32(n)), plainSum(text(n, uint32(n))))
	}
}

// P4.1: no bytes, however none are told.
func TestNothing(t *testing.T) {
	want := plainSum(nil)
	for _, b := range [][]byte{nil, {}, make([]byte, 0, 9), []byte("123")[3:]} {
		expect(t, b, want)
		if p := sha.Pad(b); len(p) != 64 || p[0] != 0x80 || !bytes.Equal(p[1:], make([]byte, 63)) {
			t.Errorf("Pad of nothing: %x", p)
		}
	}
	for i, l := range [][][]byte{nil, {}, {nil}, {{}}, {nil, {}, nil}, make([][]byte, 1000)} {
		if x := sha.Join(l...); x != want {
			t.Errorf("Join of nothing, %d: %x", i, x)
		}
	}
	if x := sha.Join(); x != want {
		t.Errorf("Join: %x", x)
	}
}

// P4.1: padded bytes of each length: they, the byte hexadecimal 80, as few of 0 as will do, and how many bits they had.
func TestPad(t *testing.T) {
	for n := range 400 {
		for _, b := range [][]byte{text(n, uint32(n)), make([]byte, n), bytes.Repeat([]byte{255}, n)} {
			p := sha.Pad(b)
			if !bytes.Equal(p, plainPad(b)) {
				t.Fatalf("%d bytes: %x", n, p)
			}
			zeros := len(p) - n - 9
			if len(p)%64 != 0 || zeros < 0 || zeros > 63 || !bytes.Equal(p[:n], b) || p[n] != 0x80 {
				t.Fatalf("%d bytes: %d of 0, %x", n, zeros, p)
			}
		}
	}
	for n, want := range map[int]int{0: 64, 1: 64, 54: 64, 55: 64, 56: 128, 63: 128, 64: 128, 65: 128, 119: 128, 120: 192, 128: 192} {
		if p := sha.Pad(make([]byte, n)); len(p) != want {
			t.Errorf("%d bytes: %d, not %d", n, len(p), want)
		}
	}
	for _, n := range []int{4096, 6000, 8191, 8192, 8193, 1<<16 - 1, 1 << 16, 1<<21 - 1, 1 << 21, 1<<21 + 1, 1<<24 + 33} {
		if b := text(n, 4); !bytes.Equal(sha.Pad(b), plainPad(b)) {
			t.Errorf("%d bytes", n)
		}
	}
}

// P4.1: the number of bits has eight bytes: more than four are needed from 2^29 bytes on.
func TestPadGreat(t *testing.T) {
	if testing.Short() {
		t.Skip("takes a gigabyte")
	}
	p := sha.Pad(make([]byte, 1<<29))
	tail := p[len(p)-64:]
	if len(p) != 1<<29+64 || tail[0] != 0x80 || !bytes.Equal(tail[1:], append(make([]byte, 58), 1, 0, 0, 0, 0)) {
		t.Errorf("%d bytes, %x", len(p), tail)
	}
}

// P4.1: the step of any block, from any eight words on; sums of words go round.
func TestStep(t *testing.T) {
	one := func(x uint32) (h [8]uint32) {
		for i := range h {
			h[i] = x
		}
		return h
	}
	heads := [][8]uint32{{}, first, one(1), one(math.MaxUint32), one(1 << 31), one(math.MaxInt32), one(0xaaaaaaaa), {1, 2, 3, 4, 5, 6, 7, 8}}
	blocks := [][64]byte{{}, [64]byte(plainPad(nil)), [64]byte(plainPad([]byte("abc")))}
	for _, x := range []byte{1, 127, 128, 255} {
		blocks = append(blocks, [64]byte(bytes.Repeat([]byte{x}, 64)))
	}
	for seed := range uint32(60) {
		heads = append(heads, words(seed))
		blocks = append(blocks, [64]byte(text(64, seed)))
	}
	for _, h := range heads {
		for _, block := range blocks {
			if x, want := sha.Step(h, block), plainStep(h, block); x != want {
				t.Fatalf("%08x, %x: %08x, not %08x", h, block, x, want)
			}
		}
	}
}

// P4.1: the step with one bit turned, each one of the words and of the block: as the chapter's words say, and another one.
func TestStepEachBit(t *testing.T) {
	for _, seed := range []uint32{0, 1, 2} {
		h, block := words(seed), [64]byte(text(64, seed))
		if seed == 0 {
			h, block = [8]uint32{}, [64]byte{}
		}
		met := map[[8]uint32]int{sha.Step(h, block): -1}
		hold := func(bit int, h [8]uint32, block [64]byte) {
			x := sha.Step(h, block)
			if x != plainStep(h, block) {
				t.Errorf("bit %d: %08x", bit, x)
			}
			if other, is := met[x]; is {
				t.Errorf("bit %d: as bit %d", bit, other)
			}
			met[x] = bit
		}
		for bit := range 256 {
			turned := h
			turned[bit/32] ^= 1 << (bit % 32)
			hold(bit, turned, block)
		}
		for bit := range 512 {
			turned := block
			turned[bit/8] ^= 1 << (bit % 8)
			hold(256+bit, h, turned)
		}
	}
}

// P4.1: a sum's digits: 64 of them, small letters, two for each byte.
func TestText(t *testing.T) {
	const digits = "0123456789abcdef"
	for at := range 32 {
		for x := range 256 {
			s := [32]byte{}
			s[at] = byte(x)
			want := strings.Repeat("0", 2*at) + digits[x/16:x/16+1] + digits[x%16:x%16+1] + strings.Repeat("0", 62-2*at)
			if is := sha.Text(s); is != want {
				t.Fatalf("%x: %s", s, is)
			}
		}
	}
	rising, whole := [32]byte{}, [32]byte(bytes.Repeat([]byte{255}, 32))
	for i := range rising {
		rising[i] = byte(i)
	}
	for s, want := range map[[32]byte]string{
		{}:     strings.Repeat("0", 64),
		whole:  strings.Repeat("f", 64),
		rising: "000102030405060708090a0b0c0d0e0f101112131415161718191a1b1c1d1e1f",
	} {
		if is := sha.Text(s); is != want {
			t.Errorf("%x: %s", s, is)
		}
	}
}

// P4.1: pieces stand one behind the other, in their order, each as often as it is told.
func TestJoinOrder(t *testing.T) {
	a, b, c := []byte("one"), text(64, 1), text(70, 2)
	for _, l := range [][][]byte{{a, b}, {b, a}, {a, b, c}, {c, b, a}, {a, a}, {b, b, b}, {c, c, b, b}, {a, nil, b}, {nil, a, {}}, {{}, {}, c}} {
		if x, want := sha.Join(l...), plainSum(slices.Concat(l...)); x != want {
			t.Errorf("Join of %q: %x, not %x", l, x, want)
		}
	}
	if sha.Join(a, b) == sha.Join(b, a) {
		t.Error("the order changes nothing")
	}
}

// P4.2: the sum of some blocks and what is left, block by block, each from where the one ahead of it has ended.
func TestBlockByBlock(t *testing.T) {
	for blocks := range 8 {
		for _, left := range []int{0, 1, 55, 56, 63} {
			b := text(64*blocks+left, uint32(blocks))
			h := first
			for i := range blocks {
				h = sha.Step(h, [64]byte(b[64*i:]))
			}
			tail := sha.Pad(b)[64*blocks:]
			for ; len(tail) > 0; tail = tail[64:] {
				h = sha.Step(h, [64]byte(tail))
			}
			if x := sha.Sum(b); x != flat(h) {
				t.Errorf("%d blocks and %d bytes: %x, not %x", blocks, left, x, flat(h))
			}
		}
	}
}

// P4.2: two pieces, cut at each place, and three, of texts around a block's end.
func TestEachCut(t *testing.T) {
	for _, n := range []int{0, 1, 9, 55, 56, 63, 64, 65, 119, 120, 128, 129, 1000} {
		b := text(n, 5)
		want := plainSum(b)
		for at := range n + 1 {
			if x := sha.Join(b[:at], b[at:]); x != want {
				t.Fatalf("Join of %d bytes, cut at %d: %x, not %x", n, at, x, want)
			}
		}
	}
	b := text(130, 6)
	want := plainSum(b)
	for at := range len(b) + 1 {
		for next := at; next <= len(b); next++ {
			if x := sha.Join(b[:at], b[at:next], b[next:]); x != want {
				t.Fatalf("Join of 130 bytes, cut at %d and %d: %x, not %x", at, next, x, want)
			}
		}
	}
}

// P4.2: a text of ten bytes, cut in each way there is, with empty pieces between or without.
func TestAllCuts(t *testing.T) {
	b := text(10, 7)
	want := plainSum(b)
	for cuts := range 1 << 9 {
		var pieces, loose [][]byte
		from := 0
		for at := 1; at <= len(b); at++ {
			if at == len(b) || cuts>>(at-1)&1 == 1 {
				pieces = append(pieces, b[from:at])
				loose = append(loose, nil, b[from:at], []byte{})
				from = at
			}
		}
		if x := sha.Join(pieces...); x != want {
			t.Errorf("Join of %q: %x, not %x", pieces, x, want)
		}
		if x := sha.Join(loose...); x != want {
			t.Errorf("Join of %q: %x, not %x", loose, x, want)
		}
	}
}

// P4.2: some thousand bytes in pieces of one size, down to one byte each.
func TestManyPieces(t *testing.T) {
	b := text(5000, 8)
	want := plainSum(b)
	for _, size := range []int{1, 2, 3, 7, 55, 56, 63, 64, 65, 128, 999, 4999, 5000} {
		if x := sha.Join(slices.Collect(slices.Chunk(b, size))...); x != want {
			t.Errorf("pieces of %d: %x, not %x", size, x, want)
		}
	}
}

// P4.2: one bit that is another one, anywhere, is another sum; so is one byte of 0 more.
func TestOneBitElse(t *testing.T) {
	for _, n := range []int{1, 9, 55, 56, 64, 130} {
		b := text(n, 9)
		met := map[[32]byte]int{sha.Sum(b): -1, sha.Join(b, []byte{0}): -2, sha.Join([]byte{0}, b): -3}
		for bit := range 8 * n {
			b[bit/8] ^= 1 << (bit % 8)
			s := sha.Join(b[:n/2], b[n/2:])
			if other, is := met[s]; is {
				t.Errorf("%d bytes: bit %d as bit %d", n, bit, other)
			}
			met[s] = bit
			b[bit/8] ^= 1 << (bit % 8)
		}
		if len(met) != 3+8*n {
			t.Errorf("%d bytes: %d sums", n, len(met))
		}
	}
}

// P4.1: what is handed in is not changed, its spare room neither, and a call hangs on its arguments alone.
func TestArgumentsStay(t *testing.T) {
	room := text(300, 10)
	was := slices.Clone(room)
	list := [][]byte{room[:10], nil, room[10:20:20], room[5:95], {}}
	firstTime := [][32]byte{sha.Sum(room[:70]), sha.Join(list[:3]...), sha.Join(list...)}
	again := [][32]byte{sha.Sum(room[:70]), sha.Join(list[:3]...), sha.Join(list...)}
	if !slices.Equal(firstTime, again) {
		t.Errorf("%x, and then %x", firstTime, again)
	}
	if len(list) != 5 || list[1] != nil || &list[0][0] != &room[0] || &list[2][0] != &room[10] || &list[3][0] != &room[5] || list[4] == nil {
		t.Error("the list is changed")
	}
	h, block, s := words(1), [64]byte(text(64, 1)), [32]byte(text(32, 1))
	if sha.Step(h, block) != sha.Step(h, block) || sha.Text(s) != sha.Text(s) || h != words(1) || block != [64]byte(text(64, 1)) || s != [32]byte(text(32, 1)) {
		t.Error("Step or Text")
	}
	if !bytes.Equal(room, was) {
		t.Error("the bytes are changed")
	}
}

// P4.1: padded bytes are never changed later, and share nothing with what was handed in or with other ones.
func TestPadStays(t *testing.T) {
	for _, n := range []int{0, 3, 55, 56, 64, 100} {
		room := text(300, 11)
		was := slices.Clone(room)
		want := plainPad(room[:n])
		p, q := sha.Pad(room[:n]), sha.Pad(room[:n])
		if !bytes.Equal(room, was) {
			t.Errorf("%d bytes: the bytes are changed", n)
		}
		clear(q)
		clear(room)
		sha.Pad(room[:n])
		sha.Sum(room)
		if !bytes.Equal(p, want) {
			t.Errorf("%d bytes: %x, not %x", n, p, want)
		}
		clear(p)
		if sha.Sum(was[:n]) != plainSum(was[:n]) {
			t.Errorf("%d bytes: what was answered is kept", n)
		}
	}
}
