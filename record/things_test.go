package record_test

import (
	"slices"
	"strings"

	"escheat/api"
)

// What the tests hand in: events with their bytes, events that may not be, bytes that are no event's, chains.

// headOf: bytes from a first one on, none of them alike.
func headOf(first byte) [32]byte {
	var head [32]byte
	for i := range head {
		head[i] = first + byte(i)*7
	}
	return head
}

// full: a head of the greatest bytes.
func full() [32]byte { return [32]byte(slices.Repeat([]byte{255}, 32)) }

// rising: so many numbers, one behind the other.
func rising(from, n int) []int {
	l := make([]int, n)
	for i := range l {
		l[i] = from + i
	}
	return l
}

// sample is an event that may be, and its bytes.
type sample struct {
	e    api.Event
	laid []byte
}

// samples: of each kind one at least, among them those of the smallest and of the greatest parts.
func samples() []sample {
	name := "a/" + strings.Repeat("n", 38)
	body := strings.Repeat("x\x00\xff\n", 500)
	return []sample{
		{api.Event{Kind: api.EvCreate, At: 1, Box: "ab"}, joined(nums(1, 1), text("ab"))},
		{api.Event{Kind: api.EvDelete, At: 2, Box: "a/b"}, joined(nums(2, 2), text("a/b"))},
		{api.Event{Kind: api.EvRename, At: 3, Box: "x", To: "yz"}, joined(nums(3, 3), text("x"), text("yz"))},
		{api.Event{Kind: api.EvRename, Box: name, To: "INBOX"}, joined(nums(3, 0), text(name), text("INBOX"))},
		{api.Event{Kind: api.EvSubscribe, At: 4, Box: "INBOX"}, joined(nums(4, 4), text("INBOX"))},
		{api.Event{Kind: api.EvForget, At: 5, Box: "c"}, joined(nums(5, 5), text("c"))},
		{api.Event{Kind: api.EvAppend, At: 6, Box: "d", Flags: 31, Date: 9, Body: []byte("m\x00")}, joined(nums(6, 6), text("d"), nums(31, 9), text("m\x00"))},
		{api.Event{Kind: api.EvAppend, Box: "d"}, joined(nums(6, 0), text("d"), nums(0, 0), text(""))},
		{api.Event{Kind: api.EvAppend, At: endCount, Box: name, Flags: 31, Date: endCount, Body: []byte(body)}, joined(nums(6, endCount), text(name), nums(31, endCount), text(body))},
		{api.Event{Kind: api.EvStore, At: 7, Box: "e", IDs: []int{3, 9}, Mode: 2, Flags: 8}, joined(nums(7, 7), text("e"), nums(2, 3, 9, 2, 8))},
		{api.Event{Kind: api.EvCopy, At: 8, Box: "f", To: "g", IDs: []int{1, 2, 1<<32 - 1}}, joined(nums(8, 8), text("f"), text("g"), nums(3, 1, 2, 1<<32-1))},
		{api.Event{Kind: api.EvExpunge, At: 9, Box: "h", IDs: []int{4}}, joined(nums(9, 9), text("h"), nums(1, 4))},
		{api.Event{Kind: api.EvRestore, At: 10, N: 11}, nums(10, 10, 11)},
		{api.Event{Kind: api.EvRule, At: 11, Box: "i", N: 60}, joined(nums(11, 11), text("i"), nums(60))},
		{api.Event{Kind: api.EvHold, At: 12, Box: "j", Set: []api.Range{{From: 5, To: 7}, {From: 9}}}, joined(nums(12, 12), text("j"), nums(2, 5, 7, 9, 0))},
		{api.Event{Kind: api.EvHold, At: 12, Box: "j"}, joined(nums(12, 12), text("j"), nums(0))},
		{api.Event{Kind: api.EvRelease, At: endCount, N: endCount}, nums(13, endCount, endCount)},
		{api.Event{Kind: api.EvRelease}, nums(13, 0, 0)},
		{api.Event{Kind: api.EvPurge, At: 14, IDs: []int{6, 7}}, nums(14, 14, 2, 6, 7)},
		{api.Event{Kind: api.EvPurge, At: 14, IDs: rising(1, 60)}, joined(nums(14, 14, 60), nums(rising(1, 60)...))},
	}
}

// wrongEvents: none of them may be.
func wrongEvents() []api.Event {
	l := []api.Event{
		{}, {Kind: -1, N: 3}, {Kind: 15, N: 3}, {Kind: 1<<32 + 13, N: 3},
		{Kind: api.EvCreate}, {Kind: api.EvCreate, Box: "inbox"}, {Kind: api.EvCreate, Box: "a//b"}, {Kind: api.EvRename, Box: "a"},
		{Kind: api.EvAppend, Box: "a", Flags: 32}, {Kind: api.EvAppend, Box: "a", Flags: -1}, {Kind: api.EvAppend, Box: "a", Date: -1}, {Kind: api.EvAppend, Box: "a", Date: endCount + 1}, {Kind: api.EvAppend, Box: "a", Body: make([]byte, 2001)},
		{Kind: api.EvStore, Box: "a", IDs: []int{1}, Mode: 3}, {Kind: api.EvExpunge, Box: "a"}, {Kind: api.EvExpunge, Box: "a", IDs: []int{2, 1}}, {Kind: api.EvPurge, IDs: rising(1, 61)}, {Kind: api.EvPurge, IDs: []int{0}},
		{Kind: api.EvHold, Box: "a", Set: make([]api.Range, 61)}, {Kind: api.EvHold, Box: "a", Set: []api.Range{{From: -1}}},
		{Kind: api.EvRelease, N: -1}, {Kind: api.EvRelease, N: endCount + 1},
	}
	for _, x := range samples() {
		early, late, other := x.e, x.e, x.e
		early.At, late.At = -1, endCount+1
		// A kind that has an N hasn't a To.
		if other.To = "a"; other.Kind == api.EvRename || other.Kind == api.EvCopy {
			other.N = 1
		}
		l = append(l, early, late, other)
	}
	return l
}

// faulty is what may not be read, and the error that it gives.
type faulty struct {
	what string
	b    []byte
	want api.Errno
}

// wrongNumbers: none of them may stand behind a Head.
func wrongNumbers() []faulty {
	l := []faulty{{"no number", nil, api.ErrShort}}
	for _, n := range []int{0, 1, 300, endCount, endCount + 1, -1} {
		for cut := 1; cut < 8; cut++ {
			l = append(l, faulty{"a number cut short", nums(n)[:cut], api.ErrShort})
		}
	}
	for _, n := range []int{0, endCount + 1, endCount + 2, endCount + 256, 2 * endCount, 1<<48 + 1, 1<<56 + 1, endNum - 1, endNum} {
		l = append(l, faulty{"a number that may not be", nums(n), api.ErrForm})
	}
	for _, n := range []int{endNum + 1, most, least, least + 1, -endCount, -1} {
		l = append(l, faulty{"a number that is too great", nums(n), api.ErrForm})
	}
	return l
}

// wrongLaid: none of them is an event's bytes.
func wrongLaid() []faulty {
	long, told61 := []byte{0, 0, 16, 1}, nums(61)
	l := []faulty{
		{"nothing", nil, api.ErrShort}, {"a byte", []byte{0}, api.ErrShort}, {"a Kind alone", nums(13), api.ErrShort},
		{"a Kind above numbers", nums(-1), api.ErrForm}, {"At above numbers", nums(13, endNum+1), api.ErrForm}, {"N above numbers", nums(13, 7, most), api.ErrForm},
		{"another Kind", nums(0, 7), api.ErrForm}, {"another Kind", nums(15, 7, 3), api.ErrForm}, {"another Kind, and no At", nums(15), api.ErrShort},
		{"a text that is too long", joined(nums(1, 7), long), api.ErrLong}, {"a text that is too long, behind another one", joined(nums(3, 7), text("a"), long), api.ErrLong},
		{"too many IDs", joined(nums(14, 7), told61), api.ErrLong}, {"too many IDs, all there", joined(nums(14, 7), told61, nums(rising(1, 61)...)), api.ErrLong}, {"too many ranges", joined(nums(12, 7), text("a"), told61), api.ErrLong},
		{"At that may not be", nums(13, endCount+1, 3), api.ErrForm}, {"N that may not be", nums(13, 7, endCount+1), api.ErrForm},
		{"a name that may not be", joined(nums(1, 7), text("inbox")), api.ErrForm}, {"no name", joined(nums(1, 7), text("")), api.ErrForm}, {"a Body that may not be", joined(nums(6, 7), text("a"), nums(0, 0), text(strings.Repeat("m", 2001))), api.ErrForm},
		{"IDs that don't rise", nums(14, 7, 2, 5, 4), api.ErrForm}, {"no IDs", nums(14, 7, 0), api.ErrForm}, {"flags that may not be", joined(nums(6, 7), text("a"), nums(32, 0), text("")), api.ErrForm},
		{"a number more", nums(13, 7, 3, 0), api.ErrForm}, {"N that may not be, and a byte more", joined(nums(13, 7, endCount+1), []byte{0}), api.ErrForm},
	}
	for _, x := range samples() {
		step := 1 + len(x.laid)/99
		for cut := 0; cut < len(x.laid); cut += step {
			l = append(l, faulty{"an event cut short", x.laid[:cut], api.ErrShort})
		}
		l = append(l, faulty{"an event cut by a byte", x.laid[:len(x.laid)-1], api.ErrShort})
		for _, more := range [][]byte{{0}, {255}, nums(1), x.laid, headAndMore} {
			l = append(l, faulty{"an event, and more", joined(x.laid, more), api.ErrForm})
		}
	}
	return l
}

// headAndMore: a whole record of its own.
var headAndMore = joined(make([]byte, 32), nums(1, 13, 7, 3))

// edgeCounts: right ones, where the bytes of what is one more change in length in one way of laying or another.
func edgeCounts() []int {
	l := []int{0, 1, 2, 8, 9, 59, 60, 99, 255*256 - 1, 1 << 39, endCount - 3}
	for bits := 3; bits <= 40; bits++ {
		if bits%7 == 0 || bits%8 == 0 || bits == 31 || bits == 39 {
			l = append(l, 1<<bits-2, 1<<bits-1, 1<<bits)
		}
	}
	return slices.DeleteFunc(l, func(n int) bool { return n >= endCount })
}

// wrongCounts: of no right chain.
var wrongCounts = []int{-1, -2, -256, -endCount, -endCount - 1, least, least + 1, endCount + 1, endCount + 2, 2 * endCount, 1<<41 - 1, endNum - 1, endNum, endNum + 1, most - 1, most}
