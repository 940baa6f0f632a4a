package pack_test

import (
	"bytes"
	"encoding/binary"
	"math"
	"slices"
	"strings"
	"testing"

	"escheat/api"
	"escheat/pack"
)

const (
	mostNum  = 1 << 62
	mostText = 4096
)

// eight: a number's bytes, whether it may be or not.
func eight(n uint64) []byte { return binary.BigEndian.AppendUint64(nil, n) }

// told: bytes that begin as a text of n bytes does, and those bytes.
func told(n uint32, b string) []byte { return append(binary.BigEndian.AppendUint32(nil, n), b...) }

// anyText: n bytes of all sorts, others for each seed.
func anyText(n int, seed uint32) string {
	b := make([]byte, n)
	for i := range b {
		seed = seed*1664525 + 1013904223
		b[i] = byte(seed >> 24)
	}
	return string(b)
}

// numbers: those that may be, the outermost ones and each bit among them.
func numbers() []int {
	l := []int{0, 1, 2, 7, 127, 128, 255, 256, 257, 65535, 65536, math.MaxInt32, math.MaxUint32, 1 << 40, mostNum - 1, mostNum}
	for bit := range 62 {
		l = append(l, 1<<bit, 1<<bit+1, mostNum-1<<bit)
	}
	return append(l, 0x0102030405060708, 0x3fedcba987654321)
}

// texts: those that may be, of any bytes.
func texts() []string {
	l := []string{"", "a", "ab", "\x00", "\xff", "\x00\x00\x00\x02ab", "\xc3\xa4 \xff\xfe\x80", strings.Repeat("\x00", 300)}
	for _, n := range []int{3, 64, 255, 256, 257, 1000, mostText - 1, mostText} {
		l = append(l, anyText(n, uint32(n)))
	}
	every := make([]byte, 256)
	for i := range every {
		every[i] = byte(i)
	}
	return append(l, string(every))
}

// P3.1: the chapter's examples.
func TestExamples(t *testing.T) {
	if b := pack.Num(nil, 7); !bytes.Equal(b, []byte{0, 0, 0, 0, 0, 0, 0, 7}) {
		t.Error(b)
	}
	if b := pack.Text(nil, "ab"); !bytes.Equal(b, []byte{0, 0, 0, 2, 'a', 'b'}) {
		t.Error(b)
	}
}

// P3.1: a number's bytes, the highest first; one that may not be is laid as the nearest one that may.
func TestNumBytes(t *testing.T) {
	for _, n := range numbers() {
		if b := pack.Num(nil, n); !bytes.Equal(b, eight(uint64(n))) {
			t.Errorf("%d: %x", n, b)
		}
	}
	for _, n := range []int{-1, -2, -255, -256, -mostNum, -mostNum - 1, math.MinInt + 1, math.MinInt} {
		if b := pack.Num(nil, n); !bytes.Equal(b, make([]byte, 8)) {
			t.Errorf("%d: %x", n, b)
		}
	}
	for _, n := range []int{mostNum + 1, mostNum + 2, mostNum + 1<<61, math.MaxInt - 1, math.MaxInt} {
		if b := pack.Num(nil, n); !bytes.Equal(b, []byte{0x40, 0, 0, 0, 0, 0, 0, 0}) {
			t.Errorf("%d: %x", n, b)
		}
	}
}

// P3.1: a text's bytes; of one that is too long those of its first 4096.
func TestTextBytes(t *testing.T) {
	for _, s := range texts() {
		if b := pack.Text(nil, s); !bytes.Equal(b, told(uint32(len(s)), s)) {
			t.Errorf("%d bytes: %.20x", len(s), b)
		}
	}
	for _, n := range []int{mostText + 1, mostText + 2, 2 * mostText, 65536, 65537, 1 << 20} {
		s := anyText(n, 3)
		if b := pack.Text(nil, s); !bytes.Equal(b, told(mostText, s[:mostText])) {
			t.Errorf("%d bytes: %d, %.20x", n, len(b), b)
		}
	}
}

// P3.1: several are laid in their order, each as if alone, behind what is there.
func TestSeveral(t *testing.T) {
	for _, before := range [][]byte{nil, {}, {9}, []byte("before"), make([]byte, 5000)} {
		n := []int{3, -1, 2, mostNum + 1, 2, 0}
		want := slices.Concat(before, eight(3), eight(0), eight(2), eight(mostNum), eight(2), eight(0))
		if b := pack.Num(before, n...); !bytes.Equal(b, want) {
			t.Errorf("numbers behind %d bytes: %x", len(before), b)
		}
		long := anyText(mostText+9, 4)
		want = slices.Concat(before, told(1, "b"), told(0, ""), told(mostText, long[:mostText]), told(1, "a"), told(1, "a"))
		if b := pack.Text(before, "b", "", long, "a", "a"); !bytes.Equal(b, want) {
			t.Errorf("texts behind %d bytes: %d", len(before), len(b))
		}
	}
	many := make([]int, 3000)
	want := []byte(nil)
	for i := range many {
		many[i] = i * i * i
		want = append(want, eight(uint64(many[i]))...)
	}
	if !bytes.Equal(pack.Num(nil, many...), want) {
		t.Error("3000 numbers")
	}
}

// P3.1: where nothing is laid, there is what was there.
func TestNothingLaid(t *testing.T) {
	for _, b := range [][]byte{nil, {}, {0}, []byte("before")} {
		if !bytes.Equal(pack.Num(b), b) || !bytes.Equal(pack.Num(b, []int{}...), b) {
			t.Errorf("%x: no numbers", b)
		}
		if !bytes.Equal(pack.Text(b), b) || !bytes.Equal(pack.Text(b, []string{}...), b) {
			t.Errorf("%x: no texts", b)
		}
	}
}

// P3.1: what is laid is new memory: neither it nor what was handed in changes the other one, its spare room neither.
func TestNewMemory(t *testing.T) {
	n, s := []int{-5, 8, math.MaxInt}, []string{"x", strings.Repeat("y", 5000)}
	for name, do := range map[string]func(b []byte) []byte{
		"numbers":    func(b []byte) []byte { return pack.Num(b, n...) },
		"texts":      func(b []byte) []byte { return pack.Text(b, s...) },
		"no numbers": func(b []byte) []byte { return pack.Num(b) },
		"no texts":   func(b []byte) []byte { return pack.Text(b) },
	} {
		room := []byte(strings.Repeat("r", 9000))
		was := slices.Clone(room)
		one := do(room[:3])
		two := do(room[:3])
		kept := slices.Clone(one)
		if !bytes.Equal(room, was) || !bytes.Equal(one, two) {
			t.Error(name, "changed what was handed in")
		}
		for i := range room {
			room[i]++
		}
		if !bytes.Equal(one, kept) {
			t.Error(name, "hang on what was handed in")
		}
		was = slices.Clone(room)
		for _, b := range [][]byte{one, one[:cap(one)]} {
			for i := range b {
				b[i] ^= 255
			}
		}
		if !bytes.Equal(room, was) || !bytes.Equal(two, kept) {
			t.Error(name, "are shared")
		}
	}
	if !slices.Equal(n, []int{-5, 8, math.MaxInt}) || s[0] != "x" || len(s[1]) != 5000 {
		t.Error("a list is changed")
	}
}

// P3.1: Num reads each number that may be, and refuses too few bytes, and numbers that are too great.
func TestReadNum(t *testing.T) {
	for _, n := range numbers() {
		r := pack.From(eight(uint64(n)))
		if x := r.Num(); x != n || r.Err() != api.OK || r.Done() != api.OK {
			t.Error(n, x, r.Err())
		}
	}
	for _, b := range [][]byte{make([]byte, 8), bytes.Repeat([]byte{255}, 8), bytes.Repeat([]byte{1}, 8)} {
		for n := range 8 {
			r := pack.From(b[:n])
			if x := r.Num(); x != 0 || r.Err() != api.ErrShort || r.Done() != api.ErrShort {
				t.Error(b[:n], x, r.Err())
			}
		}
	}
	for _, n := range []uint64{mostNum + 1, mostNum + 256, math.MaxInt64, 1 << 63, 1<<63 + 1, math.MaxUint64, 0x4000000100000000} {
		r := pack.From(append(eight(n), eight(5)...))
		if x := r.Num(); x != 0 || r.Err() != api.ErrForm || r.Done() != api.ErrForm || r.Num() != 0 {
			t.Error(n, x, r.Err())
		}
	}
}

// P3.1: Text reads each text that may be, and refuses too few bytes, and texts that are told to be too long.
func TestReadText(t *testing.T) {
	for _, s := range texts() {
		r := pack.From(told(uint32(len(s)), s))
		if x := r.Text(); x != s || r.Err() != api.OK || r.Done() != api.OK {
			t.Error(len(s), len(x), r.Err())
		}
		for _, fewer := range []int{1, 2, len(s) / 2, len(s)} {
			if fewer == 0 || fewer > len(s) {
				continue
			}
			r := pack.From(told(uint32(len(s)), s[fewer:]))
			if x := r.Text(); x != "" || r.Err() != api.ErrShort || r.Done() != api.ErrShort {
				t.Error(len(s), "less", fewer, len(x), r.Err())
			}
		}
	}
	for n := range 4 {
		for _, c := range []byte{0, 1, 255} {
			r := pack.From(bytes.Repeat([]byte{c}, n))
			if x := r.Text(); x != "" || r.Err() != api.ErrShort || r.Done() != api.ErrShort {
				t.Error(n, c, len(x), r.Err())
			}
		}
	}
	for _, n := range []uint32{mostText + 1, mostText + 2, 65536, 1 << 24, math.MaxInt32, 1 << 31, math.MaxUint32} {
		for _, b := range []string{"", "x", anyText(mostText, 5), anyText(70000, 6)} {
			r := pack.From(told(n, b))
			if x := r.Text(); x != "" || r.Err() != api.ErrLong || r.Done() != api.ErrLong {
				t.Error(n, len(b), len(x), r.Err())
			}
		}
	}
}

// P3.1: Count has Num's errors, and then its own.
func TestCount(t *testing.T) {
	for _, x := range []struct {
		n    uint64
		most int
		e    api.Errno
	}{
		{0, 0, api.OK}, {1, 0, api.ErrLong}, {9, 9, api.OK}, {9, 10, api.OK}, {9, 8, api.ErrLong}, {0, math.MaxInt, api.OK},
		{0, -1, api.ErrLong}, {0, math.MinInt, api.ErrLong}, {5, -5, api.ErrLong},
		{mostNum, mostNum, api.OK}, {mostNum, mostNum - 1, api.ErrLong}, {mostNum, math.MaxInt, api.OK},
		{mostNum + 1, math.MaxInt, api.ErrForm}, {mostNum + 1, mostNum + 1, api.ErrForm}, {mostNum + 1, 3, api.ErrForm}, {mostNum + 1, -1, api.ErrForm},
		{1 << 63, math.MaxInt, api.ErrForm}, {math.MaxUint64, -1, api.ErrForm},
	} {
		r := pack.From(eight(x.n))
		want := 0
		if x.e == api.OK {
			want = int(x.n)
		}
		if n := r.Count(x.most); n != want || r.Err() != x.e || r.Done() != x.e {
			t.Error(x, n, r.Err())
		}
	}
	for n := range 8 {
		for _, most := range []int{math.MinInt, -1, 0, 5, math.MaxInt} {
			r := pack.From(make([]byte, n))
			if x := r.Count(most); x != 0 || r.Err() != api.ErrShort {
				t.Error(n, most, x, r.Err())
			}
		}
	}
}

// P3.1: Fail is an error, if what was read is bad, and nothing else.
func TestFail(t *testing.T) {
	r := pack.From(pack.Text(pack.Num(nil, 3, 4), "s"))
	r.Fail(false)
	if r.Err() != api.OK || r.Num() != 3 {
		t.Error("nothing was bad")
	}
	r.Fail(true)
	if r.Err() != api.ErrForm || r.Done() != api.ErrForm || r.Num() != 0 || r.Count(9) != 0 || r.Text() != "" {
		t.Error(r.Err())
	}
	r.Fail(false)
	if r.Err() != api.ErrForm {
		t.Error("the error is gone")
	}
}

// P3.1: Done tells that bytes are left, and reads none.
func TestDone(t *testing.T) {
	r := pack.From(pack.Text(pack.Num(nil, 3), "s"))
	if r.Done() != api.ErrForm || r.Done() != api.ErrForm || r.Err() != api.OK {
		t.Error("ahead of all", r.Done(), r.Err())
	}
	if r.Num() != 3 || r.Done() != api.ErrForm || r.Err() != api.OK {
		t.Error("behind one", r.Done(), r.Err())
	}
	if r.Text() != "s" || r.Done() != api.OK || r.Err() != api.OK {
		t.Error("behind all", r.Done(), r.Err())
	}
	if r.Num() != 0 || r.Done() != api.ErrShort || r.Err() != api.ErrShort {
		t.Error("beyond all", r.Done(), r.Err())
	}
	for _, b := range [][]byte{nil, {}} {
		if r := pack.From(b); r.Done() != api.OK || r.Err() != api.OK {
			t.Error("of nothing", r.Done())
		}
	}
	for n := 1; n < 20; n++ {
		if r := pack.From(make([]byte, n)); r.Done() != api.ErrForm {
			t.Error(n, r.Done())
		}
	}
}

// P3.1: behind each first error all is 0, or nothing, even where it would be there, and no other error takes its place.
func TestFirstErrorStays(t *testing.T) {
	good := pack.Text(pack.Num(nil, 1, 2, 3), "good")
	for i, x := range []struct {
		b  []byte
		do func(r *pack.Reader)
		e  api.Errno
	}{
		{eight(mostNum + 1), func(r *pack.Reader) { r.Num() }, api.ErrForm},
		{told(mostText+1, ""), func(r *pack.Reader) { r.Text() }, api.ErrLong},
		{eight(10), func(r *pack.Reader) { r.Count(9) }, api.ErrLong},
		{nil, func(r *pack.Reader) { r.Fail(true) }, api.ErrForm},
		{eight(1 << 62), func(r *pack.Reader) { r.Text() }, api.ErrLong},
		{told(500, ""), func(r *pack.Reader) { r.Text() }, api.ErrShort},
	} {
		r := pack.From(slices.Concat(x.b, good))
		x.do(r)
		for range 3 {
			if r.Err() != x.e || r.Done() != x.e {
				t.Error(i, r.Err(), r.Done(), x.e)
			}
			if n := r.Num(); n != 0 {
				t.Error(i, n)
			}
			if s := r.Text(); s != "" {
				t.Error(i, s)
			}
			if n := r.Count(math.MaxInt); n != 0 {
				t.Error(i, n)
			}
			if n := r.Count(-1); n != 0 {
				t.Error(i, n)
			}
			r.Fail(false)
			r.Fail(true)
		}
	}
}

// P3.1: nil is a reader of nothing, whatever was asked of it; a new one reads nothing, too.
func TestNoReader(t *testing.T) {
	var none *pack.Reader
	for range 2 {
		none.Fail(true)
		none.Fail(false)
		if none.Num() != 0 || none.Text() != "" || none.Count(3) != 0 || none.Count(-1) != 0 || none.Err() != api.OK || none.Done() != api.OK {
			t.Error("nil")
		}
	}
	empty := new(pack.Reader)
	if empty.Done() != api.OK || empty.Err() != api.OK || empty.Num() != 0 || empty.Err() != api.ErrShort {
		t.Error("a new one")
	}
}

// P3.1: what is read isn't changed, and not kept: the reader has the bytes that there were; two readers don't know of each other.
func TestBytesStay(t *testing.T) {
	b := pack.Num(pack.Text(nil, "first", "second"), 77)
	was := slices.Clone(b)
	one, two := pack.From(b), pack.From(b)
	first := one.Text()
	if one.Fail(true); two.Err() != api.OK {
		t.Error("the other one's error")
	}
	if !bytes.Equal(b, was) {
		t.Error("the bytes are changed")
	}
	for i := range b {
		b[i] = 255
	}
	if first != "first" || two.Text() != "first" || two.Text() != "second" || two.Num() != 77 || two.Done() != api.OK {
		t.Error("it hangs on what was handed in")
	}
}

// plain: what the chapter's words say of a reader, held as the place that it has come to.
type plain struct {
	b  []byte
	at int
	e  api.Errno
}

func (p *plain) num() int {
	switch rest := p.b[p.at:]; {
	case p.e != api.OK:
	case len(rest) < 8:
		p.e = api.ErrShort
	case binary.BigEndian.Uint64(rest) > mostNum:
		p.e = api.ErrForm
	default:
		p.at += 8
		return int(binary.BigEndian.Uint64(rest))
	}
	return 0
}

func (p *plain) text() string {
	switch rest := p.b[p.at:]; {
	case p.e != api.OK:
	case len(rest) < 4:
		p.e = api.ErrShort
	case binary.BigEndian.Uint32(rest) > mostText:
		p.e = api.ErrLong
	case len(rest)-4 < int(binary.BigEndian.Uint32(rest)):
		p.e = api.ErrShort
	default:
		from := p.at + 4
		p.at = from + int(binary.BigEndian.Uint32(rest))
		return string(p.b[from:p.at])
	}
	return ""
}

func (p *plain) count(most int) int {
	n := p.num()
	if p.e == api.OK && n > most {
		p.e, n = api.ErrLong, 0
	}
	return n
}

func (p *plain) done() api.Errno {
	if p.e == api.OK && p.at < len(p.b) {
		return api.ErrForm
	}
	return p.e
}

// step: one call of each reader; are they alike?
func step(r *pack.Reader, p *plain, call int) bool {
	switch call {
	case 0:
		return r.Num() == p.num()
	case 1:
		return r.Text() == p.text()
	case 2:
		return r.Count(6) == p.count(6)
	case 3:
		return r.Count(-1) == p.count(-1)
	case 4:
		r.Fail(false)
	case 5:
		if r.Fail(true); p.e == api.OK {
			p.e = api.ErrForm
		}
	}
	return true
}

// P3.1: five calls in any order, of bytes that are right, cut, and wrong, held against the chapter's words.
func TestAnyOrder(t *testing.T) {
	const kinds, calls = 6, 5
	sources := [][]byte{
		nil, {0}, make([]byte, 40),
		pack.Num(nil, 5, 6, 7), pack.Num(nil, 7, 5), pack.Text(nil, "one", "", "three"),
		pack.Num(pack.Text(pack.Num(nil, 6), "six"), 9), pack.Text(pack.Num(pack.Text(nil, ""), 0), "x", "y"),
		pack.Text(pack.Num(nil, 1), "cut")[:14], pack.Num(pack.Text(nil, "cut"), 1)[:10],
		slices.Concat(eight(3), eight(mostNum+1), eight(3)), slices.Concat(told(2, "ab"), told(5000, "ab")), slices.Concat(told(1, "a"), told(9, "b")),
	}
	for _, b := range sources {
		for order := range kinds * kinds * kinds * kinds * kinds {
			r, p := pack.From(b), &plain{b: b}
			left := order
			for range calls {
				if !step(r, p, left%kinds) || r.Err() != p.e || r.Done() != p.done() {
					t.Fatalf("%x, calls %d: error %d, not %d, done %d, not %d", b, order, r.Err(), p.e, r.Done(), p.done())
				}
				left /= kinds
			}
		}
	}
}

// P3.2: each number and each text is read as it was laid, also where it was laid as another one.
func TestThereAndBack(t *testing.T) {
	n, s := numbers(), texts()
	b := pack.Text(pack.Num(nil, n...), s...)
	for i := range n {
		b = pack.Num(pack.Text(b, s[i%len(s)]), n[i])
	}
	r := pack.From(b)
	for _, want := range n {
		if x := r.Num(); x != want {
			t.Fatal(x, want)
		}
	}
	for _, want := range s {
		if x := r.Text(); x != want {
			t.Fatal(len(x), len(want))
		}
	}
	for i, want := range n {
		if x := r.Text(); x != s[i%len(s)] {
			t.Fatal(i, len(x))
		}
		if x := r.Count(want); x != want {
			t.Fatal(x, want)
		}
	}
	if r.Done() != api.OK {
		t.Error(r.Done())
	}
	long := anyText(9000, 7)
	r = pack.From(pack.Text(pack.Num(nil, math.MinInt, math.MaxInt), long))
	if r.Num() != 0 || r.Num() != mostNum || r.Text() != long[:mostText] || r.Done() != api.OK {
		t.Error("what may not be", r.Done())
	}
}

// P3.2: what is laid ahead of others or behind them is read alike, and cut anywhere it isn't there.
func TestEachCut(t *testing.T) {
	b := pack.Num(pack.Text(pack.Num(nil, 258), "text", ""), mostNum)
	read := func(b []byte) api.Errno {
		r := pack.From(b)
		r.Num()
		r.Text()
		r.Text()
		r.Num()
		return r.Done()
	}
	for at := range b {
		if e := read(b[:at]); e != api.ErrShort {
			t.Error(at, e)
		}
	}
	if e := read(b); e != api.OK {
		t.Error(e)
	}
	if e := read(append(slices.Clone(b), 0)); e != api.ErrForm {
		t.Error(e)
	}
}

// P3.2: bytes of all sorts: what is read of them has, laid again, just the bytes that it was read from.
func TestBackAndThere(t *testing.T) {
	met := 0
	for seed := range uint32(3000) {
		b := []byte(anyText(90, seed))
		// Most bytes are 0, so that numbers and texts that may be are met.
		for i := range b {
			if b[i] >= 48 {
				b[i] = 0
			}
		}
		r := pack.From(b)
		var laid []byte
		for turn := seed; ; turn = turn*1664525 + 1013904223 {
			var next []byte
			if turn>>30&1 == 0 {
				next = pack.Num(laid, r.Num())
			} else {
				next = pack.Text(laid, r.Text())
			}
			if r.Err() != api.OK {
				break
			}
			met++
			laid = next
			if !bytes.HasPrefix(b, laid) {
				t.Fatalf("of %x: %x", b, laid)
			}
			if (r.Done() == api.OK) != (len(laid) == len(b)) {
				t.Fatalf("of %x: %x, done %d", b, laid, r.Done())
			}
		}
	}
	if met < 3000 {
		t.Error("too few were met:", met)
	}
}

// P3.2: no two numbers and no two texts have the same bytes, and one byte that is another one is another number or text, or none.
func TestOneByteElse(t *testing.T) {
	b := pack.Text(pack.Num(nil, 0x0102030405060708), "four")
	for at := range b {
		for turn := 1; turn < 256; turn++ {
			other := slices.Clone(b)
			other[at] ^= byte(turn)
			r := pack.From(other)
			n, s := r.Num(), r.Text()
			if n == 0x0102030405060708 && s == "four" {
				t.Error(at, turn, "is read as the same")
			}
			if e := r.Done(); e == api.OK && !bytes.Equal(pack.Text(pack.Num(nil, n), s), other) {
				t.Error(at, turn, "isn't laid as it was read")
			}
		}
	}
}
