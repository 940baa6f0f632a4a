package flag_test

import (
	"math/rand"
	"slices"
	"strings"
	"testing"

	"escheat/api"
	"escheat/flag"
)

// printIs: a number is told so, and the model agrees.
func printIs(t *testing.T, n int, want string) {
	t.Helper()
	if got, own := flag.Print(n), ownPrint(n); got != want || own != want {
		t.Errorf("Print(%d): %s, the model %s, not %s", n, got, own, want)
	}
}

// likeOne: a name is what the model says.
func likeOne(t *testing.T, name string) (int, api.Errno) {
	t.Helper()
	n, e := flag.One(name)
	if want, f := ownOne(name); n != want || e != f {
		t.Errorf("One(%q): %d, %d, not %d, %d", name, n, e, want, f)
	}
	return n, e
}

// likeParse: a list is what the model says, and stays as it was, its spare room too.
func likeParse(t *testing.T, names []string) (int, api.Errno) {
	t.Helper()
	given := append(slices.Clone(names), "spare", "room")
	held := slices.Clone(given)
	n, e := flag.Parse(given[:len(names)])
	if want, f := ownParse(names); n != want || e != f {
		t.Errorf("Parse(%q): %d, %d, not %d, %d", names, n, e, want, f)
	}
	if !slices.Equal(given, held) {
		t.Errorf("Parse(%q) has changed it: %q", held, given)
	}
	return n, e
}

// likeApply: flags are changed as the model says.
func likeApply(t *testing.T, flags, mode, more int) (int, api.Errno) {
	t.Helper()
	n, e := flag.Apply(flags, mode, more)
	if want, f := ownApply(flags, mode, more); n != want || e != f {
		t.Errorf("Apply(%d, %d, %d): %d, %d, not %d, %d", flags, mode, more, n, e, want, f)
	}
	return n, e
}

// mixes: a name in all mixtures of small and great letters.
func mixes(name string) []string {
	list := []string{""}
	for i := range len(name) {
		next := []string{}
		for _, s := range list {
			small, great := strings.ToLower(name[i:i+1]), strings.ToUpper(name[i:i+1])
			next = append(next, s+small)
			if great != small {
				next = append(next, s+great)
			}
		}
		list = next
	}
	return list
}

// wrong: texts that are no names.
func wrong() []string {
	list := []string{"", " ", `\`, `\\`, "()", `\Recent`, `\*`, "Junk", "\x00", "\xff", `\See`, `\Seenn`, `\Sen`, `/Seen`, `\Seen \Draft`, `\Seen,`, "\\Seen\r\n",
		// Letters that the library takes for those of the names.
		"\\\u017feen", "\\An\u017fwered", "\\Dra\uff46t"}
	for _, name := range told {
		list = append(list, name[1:], `\`+name, "("+name+")", name+" ", " "+name, "\t"+name, name+"\x00", "\x00"+name, name+name, name+name[1:], name[:len(name)-1])
	}
	return list
}

// P8.1: the chapter's example, no flag, all of them, each alone.
func TestPrintIs(t *testing.T) {
	printIs(t, 0, `()`)
	printIs(t, 9, `(\Deleted \Seen)`)
	printIs(t, 31, `(\Answered \Flagged \Deleted \Seen \Draft)`)
	printIs(t, 1, `(\Seen)`)
	printIs(t, 2, `(\Answered)`)
	printIs(t, 4, `(\Flagged)`)
	printIs(t, 8, `(\Deleted)`)
	printIs(t, 16, `(\Draft)`)
	printIs(t, 3, `(\Answered \Seen)`)
	printIs(t, 17, `(\Seen \Draft)`)
	printIs(t, 22, `(\Answered \Flagged \Draft)`)
	printIs(t, 30, `(\Answered \Flagged \Deleted \Draft)`)
}

// P8.1: of a number that is no flags the five bits are told all the same.
func TestPrintBeyond(t *testing.T) {
	printIs(t, 32, `()`)
	printIs(t, 1<<40+9, `(\Deleted \Seen)`)
	printIs(t, 64+16, `(\Draft)`)
	printIs(t, -1, `(\Answered \Flagged \Deleted \Seen \Draft)`)
	printIs(t, -32, `()`)
	printIs(t, -31, `(\Seen)`)
	printIs(t, least, `()`)
	printIs(t, most, `(\Answered \Flagged \Deleted \Seen \Draft)`)
	for n := -100; n <= 200; n++ {
		printIs(t, n, ownPrint(n))
	}
	for _, n := range strange {
		printIs(t, n, ownPrint(n))
	}
	r := rand.New(rand.NewSource(8))
	for range 2000 {
		n := int(r.Uint64())
		printIs(t, n, ownPrint(n))
	}
}

// P8.1: each name alone, in whatever letters, is its bit.
func TestOneIs(t *testing.T) {
	for i, name := range told {
		for _, s := range mixes(name) {
			if n, e := likeOne(t, s); n != bits[i] || e != api.OK {
				t.Errorf("One(%q): %d, %d", s, n, e)
			}
		}
	}
}

// P8.1: any other text is none, with 0 beside the error.
func TestOneWrong(t *testing.T) {
	for _, s := range wrong() {
		if n, e := likeOne(t, s); n != 0 || e != api.ErrForm {
			t.Errorf("One(%q): %d, %d", s, n, e)
		}
	}
	for _, s := range []string{strings.Repeat("a", 10000), strings.Repeat(`\Seen`, 2000)} {
		if n, e := flag.One(s); n != 0 || e != api.ErrForm {
			t.Errorf("One of %d bytes: %d, %d", len(s), n, e)
		}
	}
}

// P8.1: a name with each byte at each place, with one byte less or more, is what the model says.
func TestOneNear(t *testing.T) {
	for _, name := range told {
		for i := range len(name) {
			likeOne(t, name[:i])
			likeOne(t, name[i:][1:])
			likeOne(t, name[:i]+name[i+1:])
			for c := range 256 {
				b := string([]byte{byte(c)})
				likeOne(t, name[:i]+b+name[i+1:])
				likeOne(t, name[:i]+b+name[i:])
				likeOne(t, name+b)
			}
		}
	}
}

// P8.1: names together: none, nil, the same one twice, in any order and letters.
func TestParseIs(t *testing.T) {
	for _, x := range []struct {
		names []string
		want  int
	}{
		{nil, 0}, {[]string{}, 0},
		{[]string{`\Seen`}, 1}, {[]string{`\aNSWERED`}, 2}, {[]string{`\flagged`}, 4}, {[]string{`\DELETED`}, 8}, {[]string{`\Draft`}, 16},
		{[]string{`\Deleted`, `\Seen`}, 9}, {[]string{`\Seen`, `\Deleted`}, 9},
		{[]string{`\Seen`, `\Seen`}, 1}, {[]string{`\Seen`, `\SEEN`, `\seen`, `\sEEN`}, 1},
		{[]string{`\Draft`, `\Seen`, `\Draft`}, 17},
		{[]string{`\Draft`, `\Seen`, `\Deleted`, `\Flagged`, `\Answered`}, 31},
	} {
		if n, e := likeParse(t, x.names); n != x.want || e != api.OK {
			t.Errorf("Parse(%q): %d, %d", x.names, n, e)
		}
	}
	many := make([]string, 10000)
	for i := range many {
		many[i] = told[i%2]
	}
	if n, e := likeParse(t, many); n != 6 || e != api.OK {
		t.Error("many names:", n, e)
	}
}

// P8.1: one that is no name, at each place of each list, lets nothing but its error be told.
func TestParseWrong(t *testing.T) {
	for _, s := range wrong() {
		for n := range len(told) + 1 {
			for i := range n + 1 {
				names := slices.Insert(slices.Clone(told[:n]), i, s)
				if n, e := likeParse(t, names); n != 0 || e != api.ErrForm {
					t.Errorf("Parse(%q): %d, %d", names, n, e)
				}
			}
		}
		if n, e := likeParse(t, []string{s, s}); n != 0 || e != api.ErrForm {
			t.Errorf("Parse of %q twice: %d, %d", s, n, e)
		}
	}
}

// P8.1: lists by chance, some of them with what is no name.
func TestParseAny(t *testing.T) {
	r := rand.New(rand.NewSource(81))
	bad := wrong()
	for range 5000 {
		names := make([]string, r.Intn(8))
		for i := range names {
			m := mixes(told[r.Intn(len(told))])
			names[i] = m[r.Intn(len(m))]
			if r.Intn(12) == 0 {
				names[i] = bad[r.Intn(len(bad))]
			}
		}
		likeParse(t, names)
	}
}

// P8.1: each mode's flags.
func TestApplyIs(t *testing.T) {
	for _, x := range []struct{ flags, mode, more, want int }{
		{0, 0, 0, 0}, {31, 0, 0, 0}, {0, 0, 31, 31}, {3, 0, 4, 4}, {9, 0, 9, 9},
		{0, 1, 0, 0}, {31, 1, 0, 31}, {0, 1, 31, 31}, {3, 1, 4, 7}, {3, 1, 3, 3}, {5, 1, 6, 7},
		{0, 2, 0, 0}, {31, 2, 0, 31}, {0, 2, 31, 0}, {7, 2, 5, 2}, {3, 2, 4, 3}, {5, 2, 6, 1}, {31, 2, 31, 0},
	} {
		if n, e := likeApply(t, x.flags, x.mode, x.more); n != x.want || e != api.OK {
			t.Errorf("Apply(%d, %d, %d): %d, %d", x.flags, x.mode, x.more, n, e)
		}
	}
}

// P8.1: all flags, with those beside them, in modes -1 to 3.
func TestApplyAll(t *testing.T) {
	for flags := -2; flags <= 34; flags++ {
		for more := -2; more <= 34; more++ {
			for mode := -1; mode <= 3; mode++ {
				likeApply(t, flags, mode, more)
			}
		}
	}
}

// P8.1: what are no flags, and no modes, are refused, each alone and together.
func TestApplyWrong(t *testing.T) {
	refused := func(flags, mode, more int) {
		t.Helper()
		if n, e := likeApply(t, flags, mode, more); n != 0 || e != api.ErrArg {
			t.Errorf("Apply(%d, %d, %d): %d, %d", flags, mode, more, n, e)
		}
	}
	for _, n := range strange {
		for mode := range 3 {
			refused(n, mode, 5)
			refused(5, mode, n)
			refused(n, mode, n)
		}
		refused(n, 3, 5)
		refused(5, -1, n)
	}
	for _, mode := range []int{-1, 3, 4, -2, 256, 1 << 32, 1<<32 + 1, least, least + 1, most} {
		for _, flags := range []int{0, 5, 31} {
			refused(flags, mode, 0)
			refused(flags, mode, 9)
		}
	}
}

// P8.1: flags are 0 to 31.
func TestRight(t *testing.T) {
	for n := -100; n <= 100; n++ {
		if got := flag.Right(n); got != (n >= 0 && n <= 31) || got != ownRight(n) {
			t.Errorf("Right(%d): %v", n, got)
		}
	}
	for _, n := range strange {
		if flag.Right(n) || ownRight(n) {
			t.Errorf("Right(%d)", n)
		}
	}
}

// printed: the names that Print tells.
func printed(n int) []string {
	return strings.Fields(strings.Trim(flag.Print(n), "()"))
}

// P8.2: what is printed is parsed as it was, in whatever letters, from behind too.
func TestThereAndBack(t *testing.T) {
	for n := range 32 {
		names := printed(n)
		upper, lower, behind := slices.Clone(names), slices.Clone(names), slices.Clone(names)
		for i := range names {
			upper[i], lower[i] = strings.ToUpper(names[i]), strings.ToLower(names[i])
		}
		slices.Reverse(behind)
		for _, list := range [][]string{names, upper, lower, behind} {
			if got, e := likeParse(t, list); got != n || e != api.OK {
				t.Errorf("%d, printed and parsed: %q, %d, %d", n, list, got, e)
			}
		}
	}
}

// P8.2: a name that is parsed and printed is that one name.
func TestBackAndThere(t *testing.T) {
	for _, name := range told {
		for _, s := range mixes(name) {
			n, e := flag.One(s)
			if got := flag.Print(n); e != api.OK || got != "("+name+")" {
				t.Errorf("%q, parsed and printed: %s, %d", s, got, e)
			}
		}
	}
}

// P8.2: what is put and taken away is away; what was there beside it stays, and nothing else comes.
func TestPutAndTaken(t *testing.T) {
	for flags := range 32 {
		for more := range 32 {
			with, e := likeApply(t, flags, 1, more)
			if e != api.OK || !flag.Right(with) {
				t.Fatalf("%d with %d: %d, %d", flags, more, with, e)
			}
			without, e := likeApply(t, with, 2, more)
			if e != api.OK || !flag.Right(without) {
				t.Fatalf("%d without %d: %d, %d", with, more, without, e)
			}
			for _, bit := range bits {
				if has(with, bit) != (has(flags, bit) || has(more, bit)) {
					t.Errorf("%d with %d: %d", flags, more, with)
				}
				if has(without, bit) != (has(flags, bit) && !has(more, bit)) {
					t.Errorf("%d with and without %d: %d", flags, more, without)
				}
			}
		}
	}
}
