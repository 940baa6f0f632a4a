package uids_test

import (
	"math/rand"
	"slices"
	"strconv"
	"strings"
	"testing"

	"escheat/api"
	"escheat/uids"
)

// one is the range of a number alone.
func one(n int) api.Range { return api.Range{From: n, To: n} }

// two is a range of two ends.
func two(from, to int) api.Range { return api.Range{From: from, To: to} }

// lent is a list with spare room, which no call may touch; given asks whether it is as it was.
type lent[T comparable] struct{ list, whole, held []T }

func lend[T comparable](l []T, spare T) lent[T] {
	whole := append(slices.Clone(l), spare, spare)
	return lent[T]{list: whole[:len(l)], whole: whole, held: slices.Clone(whole)}
}

func (l lent[T]) changed() bool { return !slices.Equal(l.whole, l.held) }

func lendSet(l []api.Range) lent[api.Range] { return lend(l, two(77, 88)) }

// likeParse: a text is read as the model says.
func likeParse(t *testing.T, s string) ([]api.Range, api.Errno) {
	t.Helper()
	l, e := uids.Parse(s)
	if want, f := ownParse(s); !slices.Equal(l, want) || e != f {
		t.Errorf("Parse(%.80q): %v, %d, not %v, %d", s, l, e, want, f)
	}
	return l, e
}

// likePrint: a set is told as the model says; Right agrees.
func likePrint(t *testing.T, l []api.Range) (string, api.Errno) {
	t.Helper()
	given := lendSet(l)
	s, e := uids.Print(given.list)
	if want, f := ownPrint(l); s != want || e != f {
		t.Errorf("Print(%v): %s, %d, not %s, %d", l, s, e, want, f)
	}
	if ok := uids.Right(given.list); ok != (e == api.OK) {
		t.Errorf("Right(%v): %t", l, ok)
	}
	if given.changed() {
		t.Errorf("Print or Right has changed %v", l)
	}
	return s, e
}

// likeHas: a number is in a set as the model says.
func likeHas(t *testing.T, l []api.Range, n, last int) bool {
	t.Helper()
	given := lendSet(l)
	ok := uids.Has(given.list, n, last)
	if ok != ownHas(l, n, last) {
		t.Errorf("Has(%v, %d, %d): %t", l, n, last, ok)
	}
	if given.changed() {
		t.Errorf("Has has changed %v", l)
	}
	return ok
}

// likePick: those numbers are picked that the model says, in a list of their own.
func likePick(t *testing.T, l []api.Range, nums []int) []int {
	t.Helper()
	set, given := lendSet(l), lend(nums, 99)
	picked := uids.Pick(set.list, given.list)
	if want := ownPick(l, nums); !slices.Equal(picked, want) {
		t.Errorf("Pick(%v, %v): %v, not %v", l, nums, picked, want)
	}
	spoiled := slices.Clone(picked)
	spoil(picked, -7)
	if set.changed() || given.changed() {
		t.Errorf("Pick(%v, %v): something handed in is another one", l, nums)
	}
	return spoiled
}

// likeOf: numbers have the ranges that the model says, and these have just them.
func likeOf(t *testing.T, nums []int) []api.Range {
	t.Helper()
	given := lend(nums, 99)
	l := uids.Of(given.list)
	if want := ownOf(nums); !slices.Equal(l, want) {
		t.Errorf("Of(%v): %v, not %v", nums, l, want)
	}
	if given.changed() {
		t.Errorf("Of has changed %v", nums)
	}
	return l
}

// spoil writes over a list and its spare room.
func spoil[T any](l []T, v T) {
	l = l[:cap(l)]
	for i := range l {
		l[i] = v
	}
}

// parsed: a text that must be a set's.
func parsed(t *testing.T, s string) []api.Range {
	t.Helper()
	l, e := likeParse(t, s)
	if e != api.OK {
		t.Fatalf("Parse(%q): %d", s, e)
	}
	return l
}

// P9.1: the chapter's examples.
func TestExamples(t *testing.T) {
	l := parsed(t, "2,4:7,9,12:*")
	if !slices.Equal(l, []api.Range{one(2), two(4, 7), one(9), two(12, 0)}) {
		t.Errorf("the set: %v", l)
	}
	in := []int{}
	for n := -3; n < 20; n++ {
		if likeHas(t, l, n, 15) {
			in = append(in, n)
		}
	}
	want := []int{2, 4, 5, 6, 7, 9, 12, 13, 14, 15}
	if !slices.Equal(in, want) {
		t.Errorf("of the last number 15: %v", in)
	}
	all := []int{1, 2, 3, 4, 5, 6, 7, 8, 9, 10, 11, 12, 13, 14, 15}
	if got := likePick(t, l, all); !slices.Equal(got, want) {
		t.Errorf("Pick: %v", got)
	}
	if got := likePick(t, parsed(t, "7:4"), all); !slices.Equal(got, []int{4, 5, 6, 7}) {
		t.Errorf("7:4: %v", got)
	}
	if s, e := likePrint(t, parsed(t, "7:4")); s != "7:4" || e != api.OK {
		t.Errorf("7:4 is told as %s, %d", s, e)
	}
	if _, e := likeParse(t, "01"); e != api.ErrForm {
		t.Errorf("01: %d", e)
	}
}

// P9.1: texts of sets, and the ranges as they are written.
func TestParseSets(t *testing.T) {
	for _, c := range []struct {
		s    string
		want []api.Range
	}{
		{"1", []api.Range{one(1)}},
		{"10", []api.Range{one(10)}},
		{"4294967295", []api.Range{one(top)}},
		{"*", []api.Range{one(0)}},
		{"*:4", []api.Range{two(0, 4)}},
		{"4:*", []api.Range{two(4, 0)}},
		{"1:2", []api.Range{two(1, 2)}},
		{"2:1", []api.Range{two(2, 1)}},
		{"1:4294967295", []api.Range{two(1, top)}},
		{"4294967295:*", []api.Range{two(top, 0)}},
		{"*:4294967295,4294967294", []api.Range{two(0, top), one(top - 1)}},
		{"3,3", []api.Range{one(3), one(3)}},
		{"9,1:5,2:3,*,*", []api.Range{one(9), two(1, 5), two(2, 3), one(0), one(0)}},
		{"1,2,3", []api.Range{one(1), one(2), one(3)}},
	} {
		if l, e := likeParse(t, c.s); e != api.OK || !slices.Equal(l, c.want) {
			t.Errorf("Parse(%q): %v, %d", c.s, l, e)
		}
	}
}

// wrong are texts that are no sets'.
func wrong() []string {
	list := strings.Split(" |0|00|01|001|0:1|1:0|0:*|*:0|01:2|1:02|1,02|00000000001|4294967296|4294967300|5000000000|9999999999|10000000000|18446744073709551617|4294967296:1|1:4294967296|"+
		"1:1|*:*|4294967295:4294967295|5,7:7|7:7,5|"+
		",|,,|,1|1,|1,,2|1,2,|:|::|:1|1:|1::2|1:2:3|1:2:|:1:2|*:|:*|**|*1|1*|*,|,*|1:,2|1,:2|"+
		"-1|+1|1:-2|1:+2|-*|1-2|--1|- 1|+*| 1|1 |1 ,2|1, 2|1 :2|1: 2|1 2|* |\t1|1\r|1\n|1\r\n|"+
		"a|1a|a1|0x1|1e3|1_0|1_000|1.0|1.|1;2|1..2|1/2|$|#|\x00|1\x00|\x001|\xff|1\xff|\u0661|\uff11|\u066d|\u2217", "|")
	return append(list, "", strings.Repeat("9", 2000), strings.Repeat("0", 1999)+"1", strings.Repeat(",", 2000), strings.Repeat("*", 2000), "1"+strings.Repeat("0", 60))
}

// P9.1: what isn't a set's text is refused, alone, and among parts that are.
func TestParseWrong(t *testing.T) {
	for _, s := range wrong() {
		list := []string{s}
		if len(s) < 1000 {
			list = append(list, "1,"+s, s+",1", "1,2:3,"+s+",*:5")
		}
		for _, s := range list {
			if l, e := likeParse(t, s); e != api.ErrForm || len(l) != 0 {
				t.Errorf("Parse(%.80q): %v, %d", s, l, e)
			}
		}
	}
}

// P9.1: each byte at each place of some texts, in its place and ahead of it.
func TestParseBytes(t *testing.T) {
	for _, s := range []string{"2,4:7,9,12:*", "1", "*", "4294967295", "10:20"} {
		for i := range len(s) + 1 {
			for c := range 256 {
				likeParse(t, s[:i]+string([]byte{byte(c)})+s[i:])
				if i < len(s) {
					likeParse(t, s[:i]+string([]byte{byte(c)})+s[i+1:])
				}
			}
		}
	}
}

// P9.1: all texts of up to six of the bytes that sets are written with.
func TestParseAllShort(t *testing.T) {
	list := []string{""}
	for range 6 {
		next := []string{}
		for _, s := range list {
			for _, c := range "012*:," {
				next = append(next, s+string(c))
			}
		}
		for _, s := range next {
			likeParse(t, s)
		}
		list = next
	}
}

// repeated: a part, so many times, commas between.
func repeated(part string, times int) string {
	return strings.TrimSuffix(strings.Repeat(part+",", times), ",")
}

// P9.1: 2000 bytes are read, 2001 are not, whatever they are.
func TestParseLong(t *testing.T) {
	sixty := repeated("4294967295:4294967294", 60)
	for _, c := range []struct {
		s    string
		want api.Errno
	}{
		{sixty, api.OK},
		{repeated("1", 1000), api.ErrLong},
		{repeated("1", 1000) + ",", api.ErrForm}, // 2000 bytes
		{repeated("1", 999) + ",22", api.ErrLong},
		{repeated("1", 999) + ",02", api.ErrForm},
		{repeated("1", 999) + ",222", api.ErrLong},
		{repeated("1", 999) + ",002", api.ErrLong},  // 2001 bytes
		{repeated("1", 1000) + ",,", api.ErrLong},   // 2001 bytes
		{strings.Repeat("a", 2000), api.ErrForm},    // ErrForm yet
		{strings.Repeat("a", 2001), api.ErrLong},    // ErrLong first
		{strings.Repeat("1", 2001), api.ErrLong},    // too many digits, too
		{strings.Repeat("\x00", 5000), api.ErrLong}, // far more
		{repeated("4294967295:4294967294", 90), api.ErrLong},
		{repeated("4294967295:4294967294", 90) + ":1", api.ErrForm},
	} {
		if _, e := likeParse(t, c.s); e != c.want {
			t.Errorf("%d bytes: %d, not %d", len(c.s), e, c.want)
		}
	}
}

// P9.1: 60 ranges are read, 61 are not; but what isn't well written is told first, wherever it stands.
func TestParseMany(t *testing.T) {
	for _, part := range []string{"1", "*", "5:3", "*:8", "4294967295"} {
		for _, n := range []int{1, 2, 59, 60} {
			if l, e := likeParse(t, repeated(part, n)); e != api.OK || len(l) != n {
				t.Errorf("%d times %s: %d ranges, %d", n, part, len(l), e)
			}
		}
		for _, n := range []int{61, 62, 70} {
			if l, e := likeParse(t, repeated(part, n)); e != api.ErrLong || len(l) != 0 {
				t.Errorf("%d times %s: %d ranges, %d", n, part, len(l), e)
			}
		}
	}
	for _, bad := range []string{"0", "", "1:1", "*:*", "4294967296", "x"} {
		for _, n := range []int{58, 59, 60, 61} {
			for at := range n + 1 {
				parts := strings.Split(repeated("1", n), ",")
				s := strings.Join(slices.Insert(parts, at, bad), ",")
				if _, e := likeParse(t, s); e != api.ErrForm {
					t.Errorf("%s at %d of %d: %d", bad, at, n, e)
				}
			}
		}
	}
}

// ends are ends of ranges, those first that may be.
var ends = []int{0, 1, 2, 9, 10, 4294967294, top, -1, -2, 4294967296, 4294967297, 1 << 33, -top, least, most}

// P9.1: what is told of ranges, and which may be.
func TestPrintRanges(t *testing.T) {
	for i, a := range ends {
		for j, b := range ends {
			may := i < 7 && j < 7
			for _, l := range [][]api.Range{{two(a, b)}, {one(5), two(a, b)}, {two(a, b), one(5)}, {one(0), two(a, b), two(8, 3)}} {
				s, e := likePrint(t, l)
				if may != (e == api.OK) || !may && (e != api.ErrArg || s != "") {
					t.Errorf("Print(%v): %s, %d", l, s, e)
				}
			}
		}
	}
	for s, l := range map[string][]api.Range{
		"*":              {{}},
		"1":              {one(1)},
		"*:1":            {two(0, 1)},
		"1:*,*":          {two(1, 0), {}},
		"10,7:4,3,3":     {one(10), two(7, 4), one(3), one(3)},
		"4294967295,1:2": {one(top), two(1, 2)},
	} {
		if got, e := likePrint(t, l); got != s || e != api.OK {
			t.Errorf("Print(%v): %s, %d", l, got, e)
		}
	}
}

// P9.1: sets have 1 to 60 ranges.
func TestPrintMany(t *testing.T) {
	for _, r := range []api.Range{{}, one(1), two(top, 1)} {
		for _, n := range []int{0, 1, 2, 59, 60, 61, 62, 1000} {
			l := slices.Repeat([]api.Range{r}, n)
			if s, e := likePrint(t, l); (e == api.OK) != (n >= 1 && n <= 60) || e != api.OK && (e != api.ErrArg || s != "") {
				t.Errorf("%d ranges: %s, %d", n, s, e)
			}
			for _, at := range []int{0, n / 2, n - 1} {
				if n > 0 {
					bad := slices.Clone(l)
					bad[at].To = -1
					likePrint(t, bad)
					bad[at] = two(top+1, 1)
					likePrint(t, bad)
				}
			}
		}
	}
	if uids.Right(nil) || uids.Right([]api.Range{}) {
		t.Error("no range is right")
	}
	if s, e := uids.Print(nil); s != "" || e != api.ErrArg {
		t.Errorf("Print(nil): %s, %d", s, e)
	}
}

// P9.1: a number is in a set, at its ends and beside them.
func TestHas(t *testing.T) {
	for _, c := range []struct {
		s       string
		n, last int
		want    bool
	}{
		{"4:7", 3, 9, false}, {"4:7", 4, 9, true}, {"4:7", 5, 9, true}, {"4:7", 7, 9, true}, {"4:7", 8, 9, false},
		{"7:4", 3, 9, false}, {"7:4", 4, 9, true}, {"7:4", 6, 9, true}, {"7:4", 7, 9, true}, {"7:4", 8, 9, false},
		{"4:7", 6, 1, true}, // beyond the last one: it may be in it all the same
		{"5", 4, 9, false}, {"5", 5, 9, true}, {"5", 6, 9, false},
		{"*", 8, 9, false}, {"*", 9, 9, true}, {"*", 10, 9, false}, {"*", 0, 0, false}, {"*", 1, 1, true}, {"*", -4, -4, false},
		// The last one below, at and above the other end.
		{"12:*", 9, 10, false}, {"12:*", 10, 10, true}, {"12:*", 11, 10, true}, {"12:*", 12, 10, true}, {"12:*", 13, 10, false},
		{"12:*", 11, 12, false}, {"12:*", 12, 12, true}, {"12:*", 13, 12, false},
		{"12:*", 11, 15, false}, {"12:*", 12, 15, true}, {"12:*", 15, 15, true}, {"12:*", 16, 15, false},
		{"*:12", 9, 10, false}, {"*:12", 10, 10, true}, {"*:12", 12, 10, true}, {"*:12", 13, 10, false},
		{"*:12", 11, 15, false}, {"*:12", 12, 15, true}, {"*:12", 15, 15, true}, {"*:12", 16, 15, false},
		{"3:*", 1, 0, true}, {"3:*", 3, 0, true}, {"3:*", 4, 0, false}, {"3:*", 0, 0, false}, {"3:*", -1, -2, false}, {"3:*", 2, -2, true},
		{"1:4294967295", top, 5, true}, {"1:4294967295", top + 1, 5, false}, {"1:4294967295", 0, 5, false}, {"1:4294967295", 1, 5, true},
		{"1,3,5", 2, 9, false}, {"1,3,5", 3, 9, true}, {"1,3,5", 5, 9, true}, {"5,3,1", 4, 9, false}, {"5,3,1", 1, 9, true},
		{"2:4,3:8", 8, 9, true}, {"2:4,3:8", 3, 9, true}, {"2:4,3:8", 9, 9, false},
	} {
		if got := likeHas(t, parsed(t, c.s), c.n, c.last); got != c.want {
			t.Errorf("is %d in %s, the last one being %d? %t", c.n, c.s, c.last, got)
		}
	}
}

// P9.1: whatever the ranges, the number and the last one are, there is an answer; below 1 never.
func TestHasAny(t *testing.T) {
	nums := append([]int{3, 4, 5, most - 1, least + 1}, ends...)
	for _, a := range ends {
		for _, b := range ends {
			for _, last := range nums {
				for _, n := range nums {
					if likeHas(t, []api.Range{two(a, b)}, n, last) && n < 1 {
						t.Errorf("%d is in %d:%d", n, a, b)
					}
				}
			}
		}
	}
	for _, n := range nums {
		if likeHas(t, nil, n, 9) {
			t.Errorf("%d is in no range", n)
		}
	}
	many := []api.Range{}
	for n := range 100 {
		many = append(many, one(2*n+1))
	}
	for n := range 300 {
		likeHas(t, many, n, 9)
	}
}

// P9.1: those are picked that are in a set; the last one is the last of them.
func TestPick(t *testing.T) {
	for _, c := range []struct {
		s          string
		nums, want []int
	}{
		{"1:*", nil, nil},
		{"*", []int{}, nil},
		{"1:4294967295", nil, nil},
		{"*", []int{5}, []int{5}},
		{"*", []int{1, 5, 9}, []int{9}},
		{"9:*", []int{1, 5, 9}, []int{9}},
		{"10:*", []int{1, 5, 9}, []int{9}},
		{"*:10", []int{1, 5, 9}, []int{9}},
		{"5:*", []int{1, 5, 9}, []int{5, 9}},
		{"6:*", []int{1, 5, 9}, []int{9}},
		{"5:6", []int{1, 5, 9}, []int{5}},
		{"2:4", []int{1, 5, 9}, nil},
		{"9,1", []int{1, 5, 9}, []int{1, 9}},
		{"5:1,1:5", []int{1, 5, 9}, []int{1, 5}},
		{"4294967295", []int{1, top}, []int{top}},
		{"4294967294:*", []int{4294967293, 4294967294, top}, []int{4294967294, top}},
	} {
		l, _ := likeParse(t, c.s)
		if got := likePick(t, l, c.nums); !slices.Equal(got, c.want) {
			t.Errorf("%s of %v: %v", c.s, c.nums, got)
		}
	}
	if got := likePick(t, nil, []int{1, 2, 3}); len(got) != 0 {
		t.Errorf("no ranges have %v", got)
	}
	for _, l := range [][]api.Range{{two(-5, 3)}, {two(least, most)}, {two(4, most)}, {two(0, -1)}, {two(0, least)}} {
		likePick(t, l, []int{1, 2, 3, 4, 5, 9})
		likePick(t, l, nil)
	}
}

// P9.1: the fewest ranges of numbers.
func TestOf(t *testing.T) {
	for _, c := range []struct {
		nums []int
		want []api.Range
	}{
		{nil, nil},
		{[]int{}, nil},
		{[]int{1}, []api.Range{one(1)}},
		{[]int{top}, []api.Range{one(top)}},
		{[]int{1, 2}, []api.Range{two(1, 2)}},
		{[]int{1, 3}, []api.Range{one(1), one(3)}},
		{[]int{1, 4}, []api.Range{one(1), one(4)}},
		{[]int{1, 2, 3, 4}, []api.Range{two(1, 4)}},
		{[]int{1, 2, 4, 5}, []api.Range{two(1, 2), two(4, 5)}},
		{[]int{2, 4, 5, 6, 8}, []api.Range{one(2), two(4, 6), one(8)}},
		{[]int{1, top}, []api.Range{one(1), one(top)}},
		{[]int{4294967293, 4294967294, top}, []api.Range{two(4294967293, top)}},
		{[]int{7, 4294967293, top}, []api.Range{one(7), one(4294967293), one(top)}},
	} {
		if got := likeOf(t, c.nums); !slices.Equal(got, c.want) {
			t.Errorf("Of(%v): %v", c.nums, got)
		}
	}
	odd := []int{}
	for n := range 200 {
		odd = append(odd, 2*n+1)
	}
	if l := likeOf(t, odd); len(l) != 200 || uids.Right(l) {
		t.Errorf("200 numbers apart have %d ranges", len(l))
	}
}

// P9.1: each call ends, though nothing is promised of numbers that don't rise.
func TestNotRising(t *testing.T) {
	for _, nums := range [][]int{{3, 3}, {5, 4, 3}, {0}, {-1, 0, 1}, {most, least}, {least, most}, {most, most}, {least, least}, {top + 1}, {1, 0}, {1, -5}} {
		for _, l := range [][]api.Range{nil, {{}}, {two(1, 0)}, {two(0, 5)}, {two(least, most)}} {
			set, given := lendSet(l), lend(nums, 99)
			spoil(uids.Pick(set.list, given.list), -7)
			spoil(uids.Of(given.list), two(-7, -7))
			if set.changed() || given.changed() {
				t.Errorf("%v of %v: something handed in is another one", l, nums)
			}
		}
	}
}

// someSet: ranges by chance, most of small ends.
func someSet(r *rand.Rand, most, wide int) []api.Range {
	l := []api.Range{}
	for range 1 + r.Intn(most) {
		x := two(r.Intn(wide), r.Intn(wide))
		if r.Intn(3) == 0 {
			x.To = x.From
		}
		l = append(l, x)
	}
	return l
}

// P9.2: what is printed is parsed as it was; what is parsed is printed as it was.
func TestThereAndBack(t *testing.T) {
	r := rand.New(rand.NewSource(9))
	for i := range 3000 {
		wide := []int{3, 20, 300, top + 1}[i%4]
		l := someSet(r, 60, wide)
		s, e := likePrint(t, l)
		if e != api.OK {
			t.Fatalf("Print(%v): %d", l, e)
		}
		back, e := likeParse(t, s)
		if e != api.OK || !slices.Equal(back, l) {
			t.Fatalf("%s is parsed as %v, %d", s, back, e)
		}
	}
	for _, s := range []string{"*", "1", "*:1", "1:*", "2,4:7,9,12:*", "7:4", "4294967295:1,*", repeated("4294967295:4294967294", 60)} {
		if got, e := likePrint(t, parsed(t, s)); e != api.OK || got != s {
			t.Errorf("%s is told as %s, %d", s, got, e)
		}
	}
}

// P9.2: what ranges are made of numbers have just these: all choices of the first twelve numbers, and of the last twelve.
func TestJustThese(t *testing.T) {
	for _, first := range []int{1, top - 11} {
		for mask := range 1 << 12 {
			nums := []int{}
			for i := range 12 {
				if mask>>i&1 != 0 {
					nums = append(nums, first+i)
				}
			}
			l := likeOf(t, nums)
			for n := first - 2; n < first+14; n++ {
				if uids.Has(l, n, first+5) != slices.Contains(nums, n) {
					t.Fatalf("Of(%v): %v, in which %d is wrong", nums, l, n)
				}
			}
		}
	}
}

// P9.1, P9.2: sets and numbers by chance.
func TestByChance(t *testing.T) {
	r := rand.New(rand.NewSource(91))
	for range 3000 {
		l := someSet(r, 4, 40)
		nums := []int{}
		for n := 1; n < 45; n++ {
			if r.Intn(3) != 0 {
				nums = append(nums, n)
			}
		}
		likePick(t, l, nums)
		for range 10 {
			likeHas(t, l, r.Intn(45)-2, r.Intn(45)-1)
		}
		ranges := likeOf(t, nums)
		if got := uids.Pick(ranges, nums); !slices.Equal(got, nums) {
			t.Fatalf("Of(%v) has %v of them", nums, got)
		}
	}
}

// P9.1: an answer is alone: what is written into it is in no other one.
func TestAlone(t *testing.T) {
	l := parsed(t, "2,4:7")
	spoil(l, one(-7))
	if l := parsed(t, "2,4:7"); !slices.Equal(l, []api.Range{one(2), two(4, 7)}) {
		t.Errorf("Parse: %v", l)
	}
	nums := []int{2, 4, 5}
	ranges := uids.Of(nums)
	spoil(nums, -7)
	if !slices.Equal(ranges, []api.Range{one(2), two(4, 5)}) {
		t.Errorf("Of: %v", ranges)
	}
	nums = []int{2, 4, 5}
	set := []api.Range{one(4), one(5)}
	picked := uids.Pick(set, nums)
	spoil(nums, -7)
	spoil(set, one(-7))
	if !slices.Equal(picked, []int{4, 5}) {
		t.Errorf("Pick: %v", picked)
	}
}

// P9.1: numbers of each length, and those beside the last one that may be.
func TestNumbers(t *testing.T) {
	for _, n := range []int{1, 9, 10, 99, 100, 999999999, 1000000000, 4294967294, top, top + 1, 4294967299, 1 << 33, 1 << 62, most} {
		s := strconv.Itoa(n)
		for _, s := range []string{s, "*:" + s, s + ":*", "8," + s, s + ",8"} {
			if _, e := likeParse(t, s); (e == api.OK) != (n <= top) {
				t.Errorf("Parse(%q): %d", s, e)
			}
		}
	}
}
