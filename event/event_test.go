package event_test

import (
	"fmt"
	"math/rand"
	"slices"
	"strings"
	"testing"

	"escheat/api"
	"escheat/event"
)

// bytesOf: so many.
func bytesOf(n int) []byte { return []byte(strings.Repeat("x\x00\xffz", n/4+1))[:n] }

// rising: so many numbers, each one step above the one ahead of it.
func rising(from, step, n int) []int {
	l := make([]int, n)
	for i := range l {
		l[i] = from + i*step
	}
	return l
}

// ends: ranges from the one to the other.
func ends(nums ...int) []api.Range {
	l := []api.Range{}
	for pair := range slices.Chunk(nums, 2) {
		l = append(l, api.Range{From: pair[0], To: pair[1]})
	}
	return l
}

// set: so many ranges, of numbers up and down.
func set(n int) []api.Range {
	l := make([]api.Range, n)
	for i := range l {
		l[i] = api.Range{From: i * 7 % 11, To: top - i*5%13}
	}
	return l
}

// of: an event of a kind at a time, with the parts that the kind has out of e.
func of(kind, at int, e api.Event) api.Event {
	own := api.Event{Kind: kind, At: at}
	for _, part := range ownParts(kind) {
		switch part {
		case 'b':
			own.Box = e.Box
		case 't':
			own.To = e.To
		case 'i':
			own.IDs = e.IDs
		case 's':
			own.Set = e.Set
		case 'm':
			own.Mode = e.Mode
		case 'f':
			own.Flags = e.Flags
		case 'd':
			own.Date = e.Date
		case 'n':
			own.N = e.N
		case 'y':
			own.Body = e.Body
		}
	}
	return own
}

// plain: an ordinary event of a kind; any other number's has no parts.
func plain(kind int) api.Event {
	return of(kind, 1000+kind, api.Event{
		Box: "INBOX/a", To: "b", IDs: []int{2, 5, 300}, Set: []api.Range{{From: 1, To: 4}, {From: 9}}, Mode: 1, Flags: 9, Date: 837596665, N: 60, Body: []byte("one\r\n\x00\xff"),
	})
}

// smallest: an event of a kind, all of whose parts are as small as may be.
func smallest(kind int) api.Event {
	return of(kind, 0, api.Event{Box: "a", To: "a", IDs: []int{1}})
}

// greatest: an event of a kind, all of whose parts are as great as may be.
func greatest(kind int) api.Event {
	return of(kind, endTime, api.Event{
		Box: strings.Repeat("n", 40), To: "INBOX/b/c/" + strings.Repeat("~", 30), IDs: rising(top-59, 1, 60), Set: slices.Repeat([]api.Range{{From: top, To: top}}, 60), Mode: 2, Flags: 31, Date: endTime, N: endTime, Body: bytesOf(2000),
	})
}

// kinds: one of each.
func kinds() []int { return rising(1, 1, 14) }

// edge is what a part may be, or not.
type edge struct {
	what string
	set  func(*api.Event)
	ok   bool
}

// timeEdges: of a part that is a time, or as great.
func timeEdges(what string, field func(*api.Event) *int) []edge {
	return numberEdges(what, field, []int{0, 1, 2, endTime - 1, endTime}, []int{-1, -2, -endTime, endTime + 1, endTime * 2, endNum, endNum + 1, least, most})
}

func numberEdges(what string, field func(*api.Event) *int, good, bad []int) []edge {
	var l []edge
	for i, n := range slices.Concat(good, bad) {
		l = append(l, edge{fmt.Sprint(what, " ", n), func(e *api.Event) { *field(e) = n }, i < len(good)})
	}
	return l
}

func nameEdges(what string, field func(*api.Event) *string) []edge {
	good := []string{"a", "INBOX", "INBOX/a", "a/inbox", "INBOXa", "inboxa", "a/b/c/d", "!#$&'+,-.:;<=>?@[]^_`|}~", strings.Repeat("n", 39), strings.Repeat("n", 40), "a/" + strings.Repeat("n", 38)}
	bad := []string{"", "inbox", "Inbox", "INBOx", "inbox/a", "iNBOX/a/b", "/", "a/", "/a", "a//b", "a/b/c/d/e", " ", "a b", "a*", "%", "(", "a)", "{", `"a"`, `\`, "a\x00", "\x1f", "\x7f", "\x80", "\xff", "\u00e4", "\r\n"}
	for _, n := range []int{41, 42, 80, 4095, 4096, 4097, 100000} {
		bad = append(bad, strings.Repeat("n", n))
	}
	var l []edge
	for i, s := range slices.Concat(good, bad) {
		l = append(l, edge{fmt.Sprintf("%s %.20q of %d bytes", what, s, len(s)), func(e *api.Event) { *field(e) = s }, i < len(good)})
	}
	return l
}

func idEdges() []edge {
	good := [][]int{{1}, {2}, {top - 1}, {top}, {1, 2}, {1, top}, {top - 1, top}, {3, 7, 8}, rising(1, 1, 59), rising(1, 1, 60), rising(top-59, 1, 60), rising(5, 70000000, 60)}
	bad := [][]int{
		nil, {}, {0}, {-1}, {least}, {top + 1}, {top + 2}, {1<<32 + 5}, {endNum}, {endNum + 1}, {most}, {0, 1}, {-1, 1}, {-5, -4}, {1, top + 1}, {top, top + 1},
		{1, 1}, {top, top}, {2, 1}, {top, 1}, {1, 3, 2}, {3, 1, 2}, {1, 2, 2}, {2, 2, 3}, {1, 0}, {1, -1}, {1, 2, 0}, rising(0, 1, 60), rising(top-58, 1, 60), rising(1, 1, 61), rising(1, 1, 62), rising(1, 1, 1000), rising(60, -1, 60), slices.Repeat([]int{4}, 60),
	}
	for i := range 59 {
		l := rising(10, 2, 60)
		l[i+1] = l[i]
		bad = append(bad, l)
		l = rising(10, 2, 60)
		l[i], l[i+1] = l[i+1], l[i]
		bad = append(bad, l)
	}
	var l []edge
	for i, ids := range slices.Concat(good, bad) {
		l = append(l, edge{fmt.Sprintf("%d IDs: %.99v", len(ids), ids), func(e *api.Event) { e.IDs = ids }, i < len(good)})
	}
	return l
}

func setEdges() []edge {
	good := [][]api.Range{
		nil, {}, ends(0, 0), ends(1, 1), ends(0, 1), ends(1, 0), ends(top, top), ends(0, top), ends(top, 0), ends(1, top), ends(top, 1), ends(9, 3),
		ends(2, 5, 2, 5), ends(7, 8, 1, 2), ends(1, 9, 4, 5, 0, 0), set(59), set(60), slices.Repeat(ends(top, 0), 60),
	}
	bad := [][]api.Range{set(61), set(62), set(1000), make([]api.Range, 61)}
	for _, n := range []int{-1, -2, top + 1, top + 2, 1<<32 + 5, endNum, endNum + 1, least, most} {
		bad = append(bad, ends(n, 1), ends(1, n), ends(n, n), ends(0, n), ends(n, 0), ends(1, 2, 3, n), ends(1, n, 3, 4), ends(1, 2, n, 3, 4, 5))
	}
	for i := range 60 {
		l := set(60)
		l[i].From = top + 1
		bad = append(bad, l)
		l = set(60)
		l[i].To = -1
		bad = append(bad, l)
	}
	var l []edge
	for i, x := range slices.Concat(good, bad) {
		l = append(l, edge{fmt.Sprintf("%d ranges: %.99v", len(x), x), func(e *api.Event) { e.Set = x }, i < len(good)})
	}
	return l
}

func bodyEdges() []edge {
	l := []edge{{"no Body", func(e *api.Event) { e.Body = nil }, true}}
	for _, n := range []int{0, 1, 2, 1999, 2000, 2001, 2002, 4095, 4096, 4097, 100000} {
		l = append(l, edge{fmt.Sprint("a Body of ", n), func(e *api.Event) { e.Body = bytesOf(n) }, n <= 2000})
	}
	return l
}

// edges are those of each part, made once.
var edges = func() map[rune][]edge {
	l := map[rune][]edge{}
	for _, part := range order {
		l[part] = edgesOf(part)
	}
	return l
}()

// isZero: does an edge leave a part as it is in no event at all?
func (x edge) isZero() bool {
	e := api.Event{}
	x.set(&e)
	return e.Box == "" && e.To == "" && len(e.IDs) == 0 && len(e.Set) == 0 && e.Mode == 0 && e.Flags == 0 && e.Date == 0 && e.N == 0 && len(e.Body) == 0
}

// wrong: the first edge of a part that may not be, whether a kind has the part or not.
func wrong(part rune) edge {
	return edges[part][slices.IndexFunc(edges[part], func(x edge) bool { return !x.ok && !x.isZero() })]
}

func edgesOf(part rune) []edge {
	switch part {
	case 'b':
		return nameEdges("Box", func(e *api.Event) *string { return &e.Box })
	case 't':
		return nameEdges("To", func(e *api.Event) *string { return &e.To })
	case 'i':
		return idEdges()
	case 's':
		return setEdges()
	case 'm':
		return numberEdges("Mode", func(e *api.Event) *int { return &e.Mode }, []int{0, 1, 2}, []int{-1, -2, 3, 4, 256, 1 << 32, 1<<32 + 1, endNum, endNum + 1, least, most})
	case 'f':
		return numberEdges("Flags", func(e *api.Event) *int { return &e.Flags }, rising(0, 1, 32), []int{-1, -31, 32, 33, 63, 64, 1 << 32, 1<<32 + 1, endNum, endNum + 1, least, most})
	case 'd':
		return timeEdges("Date", func(e *api.Event) *int { return &e.Date })
	case 'n':
		return timeEdges("N", func(e *api.Event) *int { return &e.N })
	}
	return bodyEdges()
}

// P12.1: the parts of each kind, and none of any other number.
func TestParts(t *testing.T) {
	for kind, want := range map[int]string{
		api.EvCreate: "b", api.EvDelete: "b", api.EvRename: "bt", api.EvSubscribe: "b", api.EvForget: "b", api.EvAppend: "bfdy", api.EvStore: "bimf", api.EvCopy: "bti",
		api.EvExpunge: "bi", api.EvRestore: "n", api.EvRule: "bn", api.EvHold: "bs", api.EvRelease: "n", api.EvPurge: "i",
	} {
		if got := event.Parts(kind); got != want || ownParts(kind) != want {
			t.Errorf("%d: %q, the model %q, not %q", kind, got, ownParts(kind), want)
		}
	}
	others := []int{0, -1, -2, -14, 15, 16, 28, 255, 256, 257, 1 << 32, 1<<32 + 1, 1<<32 + 14, endNum, least, least + 1, least + 14, most, most - 1}
	for _, kind := range slices.Concat(others, rising(15, 1, 1000), rising(0, -1, 1000)) {
		if got := event.Parts(kind); got != "" {
			t.Errorf("%d: %q", kind, got)
		}
	}
}

// P12.1, P12.2: ordinary events of each kind, and those of the smallest and the greatest parts, may be, and go there and back.
func TestEachKind(t *testing.T) {
	for _, kind := range kinds() {
		rightIs(t, "plain", plain(kind), true)
		rightIs(t, "smallest", smallest(kind), true)
		rightIs(t, "greatest", greatest(kind), true)
	}
}

// P12.1: a Kind that isn't one may not be, whatever parts stand beside it; nor may one with the parts of another one.
func TestRightKind(t *testing.T) {
	rightIs(t, "nothing", api.Event{}, false)
	for _, kind := range []int{-1, 0, 15, 16, -14, 255, 257, 1 << 32, 1<<32 + 1, 1<<32 + 13, endNum, least, most} {
		for from := range 16 {
			e := plain(from)
			e.Kind = kind
			rightIs(t, "Kind", e, false)
			e = smallest(from)
			e.Kind = kind
			rightIs(t, "Kind", e, false)
		}
	}
	for _, kind := range kinds() {
		for _, from := range kinds() {
			e := plain(from)
			e.Kind = kind
			want := true
			for _, part := range order {
				mayBeZero := strings.ContainsRune("smfdny", part)
				want = want && (has(kind, part) == has(from, part) || has(kind, part) && mayBeZero)
			}
			rightIs(t, fmt.Sprint("parts of ", from), e, want)
		}
	}
}

// P12.1: At is a time, in each kind.
func TestRightAt(t *testing.T) {
	for _, kind := range kinds() {
		for _, x := range timeEdges("At", func(e *api.Event) *int { return &e.At }) {
			for _, e := range []api.Event{plain(kind), smallest(kind), greatest(kind)} {
				x.set(&e)
				rightIs(t, x.what, e, x.ok)
			}
		}
	}
}

// P12.1, P12.2: each part of each kind, at its edges, among small and great ones.
func TestRightParts(t *testing.T) {
	for _, kind := range kinds() {
		for _, part := range event.Parts(kind) {
			for _, x := range edges[part] {
				for _, e := range []api.Event{plain(kind), smallest(kind), greatest(kind)} {
					x.set(&e)
					rightIs(t, x.what, e, x.ok)
					likeDecode(t, x.what, ownBytes(e))
				}
			}
		}
	}
}

// P12.1: a part that a kind doesn't have is zero; a list of no elements is.
func TestRightOthers(t *testing.T) {
	for _, kind := range kinds() {
		for _, part := range order {
			if has(kind, part) {
				continue
			}
			for _, x := range edges[part] {
				for _, e := range []api.Event{plain(kind), smallest(kind), greatest(kind)} {
					x.set(&e)
					rightIs(t, x.what+" which the kind hasn't", e, x.isZero())
				}
			}
		}
		e := plain(kind)
		e.IDs, e.Set, e.Body = append([]int{}, e.IDs...), append([]api.Range{}, e.Set...), append([]byte{}, e.Body...)
		rightIs(t, "empty lists", e, true)
	}
}

// P12.1: two parts that may not be, or one beside a wrong At.
func TestRightTwice(t *testing.T) {
	for _, kind := range kinds() {
		for _, part := range order {
			for _, other := range order {
				e := plain(kind)
				wrong(part).set(&e)
				wrong(other).set(&e)
				rightIs(t, "two", e, false)
			}
			e := plain(kind)
			wrong(part).set(&e)
			e.At = -1
			rightIs(t, "one, and At", e, false)
		}
	}
}

// P12.1: very long lists may not be, whether a kind has them or not.
func TestRightLong(t *testing.T) {
	long := api.Event{Box: strings.Repeat("n", 3000000), IDs: rising(1, 1, 1000000), Set: make([]api.Range, 1000000), Body: make([]byte, 3000000)}
	for _, kind := range kinds() {
		for i, change := range []func(e *api.Event){
			func(e *api.Event) { e.Box = long.Box }, func(e *api.Event) { e.To = long.Box }, func(e *api.Event) { e.IDs = long.IDs }, func(e *api.Event) { e.Set = long.Set }, func(e *api.Event) { e.Body = long.Body },
		} {
			e := plain(kind)
			change(&e)
			if b, f := event.Encode(e); event.Right(e) || f != api.ErrArg || len(b) > 0 {
				t.Errorf("%d, change %d: Right %t, Encode %d", kind, i, event.Right(e), f)
			}
			if !event.Same(e, e) || event.Same(e, plain(kind)) {
				t.Errorf("%d, change %d: Same", kind, i)
			}
		}
	}
}

// changes are of one field each.
func changes() []func(*api.Event) {
	return []func(*api.Event){
		func(e *api.Event) { e.Kind++ }, func(e *api.Event) { e.Kind = 0 }, func(e *api.Event) { e.Kind += 1 << 32 },
		func(e *api.Event) { e.At-- }, func(e *api.Event) { e.At = -e.At }, func(e *api.Event) { e.At += 1 << 32 },
		func(e *api.Event) { e.Box = "" }, func(e *api.Event) { e.Box = "inbox/a" }, func(e *api.Event) { e.Box += "\x00" }, func(e *api.Event) { e.Box = e.Box[1:] },
		func(e *api.Event) { e.To = "" }, func(e *api.Event) { e.To = "B" }, func(e *api.Event) { e.To += "\x00" },
		func(e *api.Event) { e.IDs = nil }, func(e *api.Event) { e.IDs = []int{} }, func(e *api.Event) { e.IDs = e.IDs[1:] }, func(e *api.Event) { e.IDs = e.IDs[:2] }, func(e *api.Event) { e.IDs = append(e.IDs, 0) },
		func(e *api.Event) { e.IDs[0]++ }, func(e *api.Event) { e.IDs[1] += 1 << 32 }, func(e *api.Event) { e.IDs[2] = -e.IDs[2] }, func(e *api.Event) { slices.Reverse(e.IDs) },
		func(e *api.Event) { e.Set = nil }, func(e *api.Event) { e.Set = e.Set[1:] }, func(e *api.Event) { e.Set = e.Set[:1] }, func(e *api.Event) { e.Set = append(e.Set, api.Range{}) },
		func(e *api.Event) { e.Set[0].From++ }, func(e *api.Event) { e.Set[0].To-- }, func(e *api.Event) { e.Set[1].From += 1 << 32 }, func(e *api.Event) { e.Set[1].To = 9 }, func(e *api.Event) { slices.Reverse(e.Set) },
		func(e *api.Event) { e.Set[0] = api.Range{From: e.Set[0].To, To: e.Set[0].From} },
		func(e *api.Event) { e.Mode++ }, func(e *api.Event) { e.Mode = 0 }, func(e *api.Event) { e.Mode += 1 << 32 },
		func(e *api.Event) { e.Flags ^= 16 }, func(e *api.Event) { e.Flags += 32 }, func(e *api.Event) { e.Flags = 0 },
		func(e *api.Event) { e.Date-- }, func(e *api.Event) { e.Date = 0 }, func(e *api.Event) { e.Date += 1 << 40 },
		func(e *api.Event) { e.N-- }, func(e *api.Event) { e.N = 0 }, func(e *api.Event) { e.N += 1 << 40 },
		func(e *api.Event) { e.Body = nil }, func(e *api.Event) { e.Body = []byte{} }, func(e *api.Event) { e.Body = e.Body[1:] }, func(e *api.Event) { e.Body = e.Body[:1] },
		func(e *api.Event) { e.Body = append(e.Body, 0) }, func(e *api.Event) { e.Body[0] = 'O' }, func(e *api.Event) { e.Body[len(e.Body)-1] ^= 128 },
	}
}

// P12.1: one field that is another one makes two that aren't the same, whether they may be or not.
func TestSame(t *testing.T) {
	all := api.Event{
		Kind: 7, At: 5, Box: "INBOX/a", To: "b", IDs: []int{2, 5, 300}, Set: []api.Range{{From: 1, To: 4}, {From: 9}}, Mode: 1, Flags: 9, Date: 8, N: 60, Body: []byte("one\xff"),
	}
	same := func(what string, a, b api.Event, want bool) {
		t.Helper()
		if likeSame(t, a, b) != want {
			t.Errorf("%s: not %t", what, want)
		}
	}
	same("itself", all, all, true)
	same("nothing", api.Event{}, api.Event{}, true)
	same("no lists and empty ones", api.Event{}, api.Event{IDs: []int{}, Set: []api.Range{}, Body: []byte{}}, true)
	same("no ranges and one that is zero", api.Event{}, api.Event{Set: []api.Range{{}}}, false)
	same("no numbers and one that is zero", api.Event{}, api.Event{IDs: []int{0}}, false)
	same("no bytes and one that is zero", api.Event{}, api.Event{Body: []byte{0}}, false)
	same("Box and To", api.Event{Box: "a"}, api.Event{To: "a"}, false)
	for i, change := range changes() {
		other := lent(all)
		change(&other)
		same(fmt.Sprint("change ", i), all, other, false)
		same(fmt.Sprint("change ", i, " with itself"), other, other, true)
	}
	for _, kind := range kinds() {
		for _, other := range kinds() {
			same("two kinds", plain(kind), plain(other), kind == other)
			same("small and great", smallest(kind), greatest(other), false)
			same("small ones", smallest(kind), smallest(other), kind == other)
		}
	}
}

// chance: an event of any parts, most of which may be.
func chance(r *rand.Rand) api.Event {
	one := func(part rune, e *api.Event) {
		l := edges[part]
		x := l[r.Intn(len(l))]
		for !x.ok && r.Intn(20) > 0 {
			x = l[r.Intn(len(l))]
		}
		x.set(e)
	}
	e := api.Event{Kind: 1 + r.Intn(14), At: r.Intn(endTime + 1)}
	for _, part := range order {
		if has(e.Kind, part) != (r.Intn(100) == 0) {
			one(part, &e)
		}
	}
	return e
}

// P12.1, P12.2: events by chance, held against the chapter's words.
func TestByChance(t *testing.T) {
	r := rand.New(rand.NewSource(12))
	right := 0
	last := api.Event{}
	for range 3000 {
		e := chance(r)
		if ownRight(e) {
			right++
		}
		rightIs(t, "by chance", e, ownRight(e))
		likeSame(t, e, last)
		last = e
	}
	if right < 1000 || right > 2900 {
		t.Errorf("%d of 3000 may be", right)
	}
}
