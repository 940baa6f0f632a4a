package name_test

import (
	"math/rand"
	"slices"
	"strings"
	"testing"

	"escheat/api"
	"escheat/name"
)

// x is a text of so many bytes.
func x(n int) string { return strings.Repeat("x", n) }

// cleanIs: a text is cleaned so, and the model agrees.
func cleanIs(t *testing.T, s, want string) {
	t.Helper()
	if clean, e := likeClean(t, s); clean != want || e != api.OK {
		t.Errorf("Clean(%q): %q, %d, not %q", s, clean, e, want)
	}
	if name.Right(s) != (s == want) {
		t.Errorf("Right(%q): %t", s, name.Right(s))
	}
}

// noName: a text is none: nothing stands beside the error, it is like no pattern, and has none above it.
func noName(t *testing.T, s string) {
	t.Helper()
	if clean, e := likeClean(t, s); clean != "" || e != api.ErrForm {
		t.Errorf("Clean(%.90q): %q, %d", s, clean, e)
	}
	if name.Right(s) || name.Like("*", s) || name.Like(s, s) || len(name.Above(s)) != 0 || name.Below(s, "") {
		t.Errorf("%.90q is none, but right, or like something, or below it", s)
	}
}

// likeIs: a name is like a pattern, or isn't, and the model agrees.
func likeIs(t *testing.T, p, s string, want bool) {
	t.Helper()
	likeLike(t, p, s)
	if got := name.Like(p, s); got != want {
		t.Errorf("Like(%q, %q): %t", p, s, got)
	}
}

// texts are all those of at most n of the bytes.
func texts(bytes string, n int) []string {
	all, last := []string{""}, []string{""}
	for range n {
		next := []string{}
		for _, s := range last {
			for i := range len(bytes) {
				next = append(next, s+bytes[i:i+1])
			}
		}
		all, last = append(all, next...), next
	}
	return all
}

// mixes: a text in all mixtures of small and great letters.
func mixes(s string) []string {
	list := []string{""}
	for i := range len(s) {
		next := []string{}
		for _, m := range list {
			next = append(next, m+strings.ToLower(s[i:i+1]), m+strings.ToUpper(s[i:i+1]))
		}
		list = next
	}
	return list
}

// P10.1: the chapter's example; names stay as they are, but for INBOX.
func TestCleanIs(t *testing.T) {
	cleanIs(t, "inbox/a", "INBOX/a")
	for _, s := range []string{"a", "A", "a/b", "a/b/c", "a/b/c/d", "Sent", "sent", "x-y_z.1", "INBOX", "INBOX/INBOX", "~", "!", "}", "]", "[", "a&b", "#"} {
		cleanIs(t, s, s)
	}
}

// P10.1: names have 1 to 40 bytes.
func TestCleanLengths(t *testing.T) {
	noName(t, "")
	for n := 1; n <= 40; n++ {
		cleanIs(t, x(n), x(n))
	}
	noName(t, x(41))
	noName(t, x(80))
	noName(t, x(81))
	noName(t, x(100000))
	cleanIs(t, "a/b/c/"+x(34), "a/b/c/"+x(34))
	noName(t, "a/b/c/"+x(35))
	cleanIs(t, x(34)+"/a/b/c", x(34)+"/a/b/c")
	cleanIs(t, "inbox/"+x(34), "INBOX/"+x(34))
	noName(t, "inbox/"+x(35))
	noName(t, "INBOX/"+x(35))
	noName(t, strings.Repeat("a/", 50000)+"a")
	noName(t, strings.Repeat("/", 100000))
}

// P10.1: each byte alone, ahead, between and behind: those from 33 to 126 may be, but for the seven.
func TestCleanBytes(t *testing.T) {
	for i := range 256 {
		b := string([]byte{byte(i)})
		for _, s := range []string{b, b + "a", "a" + b, "a" + b + "c", "a/" + b, b + "/a", "a/" + b + "/c", "inbox" + b, "inbox/" + b, b + "inbox", b + b, x(39) + b} {
			likeClean(t, s)
			likeAbove(t, s)
		}
		may := i > 32 && i < 127 && !strings.Contains(`/(){%*"\`, b)
		if name.Right("a"+b+"c") != (may || b == "/") || name.Right(b) != may {
			t.Errorf("byte %d", i)
		}
	}
	for _, b := range []string{"\x1f", " ", "\x7f", "(", ")", "{", "%", "*", `"`, `\`, "\x00", "\r", "\n", "\t", "\x80", "\xff", "ä", "\u00a0"} {
		noName(t, b)
		noName(t, "a"+b)
		noName(t, b+"a")
		noName(t, "a/"+b+"/c")
		noName(t, "inbox/a"+b)
	}
}

// P10.1: the chapter's example; at most 4 parts, none of them empty.
func TestCleanParts(t *testing.T) {
	noName(t, "a//b")
	for _, s := range []string{"/", "//", "///", "/a", "a/", "/a/", "a/b/", "/a/b", "a//", "//a", "a/b//c", "a//b/c", "a/b/c/", "a/b/c/d/", "/a/b/c/d", "a/b/c/d/e", "a/b/c/d/e/f", "a///d", "inbox/", "INBOX/", "/inbox", "inbox//a", "inbox/a/b/c/d"} {
		noName(t, s)
	}
	cleanIs(t, "inbox/a/b/c", "INBOX/a/b/c")
}

// P10.1: INBOX in all its letters, alone and as the first part; and where it isn't INBOX.
func TestCleanInbox(t *testing.T) {
	for _, m := range mixes("inbox") {
		cleanIs(t, m, "INBOX")
		cleanIs(t, m+"/a", "INBOX/a")
		cleanIs(t, m+"/"+m, "INBOX/"+m)
		cleanIs(t, m+"/"+m+"/"+m+"/"+m, "INBOX/"+m+"/"+m+"/"+m)
		for _, s := range []string{"a/" + m, "a/b/c/" + m, m + "es", m + "x/a", m + "1", "x" + m, "x" + m + "/a", m[:4], m[1:], m[:4] + "/x", m[:2] + "/" + m[2:], m + m, m + "-/a"} {
			cleanIs(t, s, s)
		}
	}
	// Letters that the library takes for those of INBOX, and none of a name's bytes.
	for _, s := range []string{"\u0131nbox", "INBO\uff38", "inbox\x00", " inbox", "inbox ", "inbox /a"} {
		noName(t, s)
	}
}

// P10.1, P10.2: all texts of a few bytes, each of them as name, and with what is above it.
func TestCleanAll(t *testing.T) {
	for _, s := range texts("aA/%", 7) {
		likeClean(t, s)
		likeAbove(t, s)
	}
	for _, s := range texts("a/", 11) {
		likeClean(t, s)
		likeAbove(t, s)
	}
}

// P10.1: the chapter's examples, and what * and % stand for.
func TestLikeIs(t *testing.T) {
	for _, c := range []struct {
		p, s string
		want bool
	}{
		{"a/%", "a/b", true}, {"a/%", "a/b/c", false}, {"a/%", "a", false},
		{"a", "a", true}, {"a", "b", false}, {"a", "A", false}, {"a", "aa", false}, {"aa", "a", false}, {"a", "a/b", false}, {"a/b", "a", false},
		{"", "a", false}, {"*", "a", true}, {"%", "a", true}, {"*", "a/b/c/d", true}, {"%", "a/b", false},
		{"a*", "a", true}, {"*a", "a", true}, {"a%", "a", true}, {"%a", "a", true}, {"*a*", "a", true}, {"%a%", "a", true},
		{"a*", "a/b", true}, {"a%", "a/b", false}, {"*b", "a/b", true}, {"%b", "a/b", false}, {"a*b", "a/b", true}, {"a%b", "a/b", false},
		{"a*b", "axxb", true}, {"a%b", "axxb", true}, {"a*b", "ab", true}, {"a%b", "ab", true}, {"a*b", "axxc", false}, {"a%b", "ba", false},
		{"%/%", "a/b", true}, {"%/%", "a", false}, {"%/%", "a/b/c", false}, {"*/*", "a/b/c", true}, {"*/*", "a", false},
		{"%/%/%/%", "a/b/c/d", true}, {"%*", "a/b", true}, {"*%", "a/b", true}, {"%%", "a/b", false}, {"**", "a/b", true},
		{"%*%", "a/b/c", true}, {"%a%b%", "xaxbx", true}, {"%a%b%", "xbxax", false}, {"*a*a*", "a", false}, {"*a*a*", "aa", true},
		{"***************", "a", true}, {"%%%%%%%%%%%%%%%", "a", true}, {"*****a*****", "b", false},
		{"*b%", "a/bc/b", true}, {"*b%", "a/bc/d", false}, {"*ab", "aab", true}, {"%ab", "aaab", true}, {"*abac", "ababac", true}, {"a*bc", "abcbd", false},
		{"*/%/c", "a/b/c", true}, {"*/%/c", "a/c", false}, {"/*", "a", false}, {"*/", "a", false}, {"a/*", "a", false}, {"a/*", "a/b/c", true}, {"a//b", "a/b", false}, {"a*/b", "a/b", true}, {"a/*/b", "a/b", false},
		{".", "a", false}, {"a?", "ab", false}, {"[a]", "a", false}, {"[a]", "[a]", true}, {"a+", "aa", false}, {"a|b", "a", false}, {"a.*", "ab", false}, {"a.*", "a.b", true},
	} {
		likeIs(t, c.p, c.s, c.want)
	}
}

// P10.1: INBOX of a pattern is read as it stands, and a name that isn't right is like none.
func TestLikeInbox(t *testing.T) {
	for _, m := range mixes("inbox") {
		likeIs(t, m, "INBOX", m == "INBOX")
		likeIs(t, m+"/%", "INBOX/a", m == "INBOX")
		likeIs(t, m+"*", "INBOX/a", m == "INBOX")
		likeIs(t, "INBOX", m, m == "INBOX")
		likeIs(t, "*", m, m == "INBOX")
		likeIs(t, m, m, m == "INBOX")
		likeIs(t, "*", m+"/a", m == "INBOX")
		likeIs(t, "%/"+m, "a/"+m, true)
		likeIs(t, "*/INBOX", "a/"+m, m == "INBOX")
		likeIs(t, "*", m+"es", true)
	}
	likeIs(t, "%nbox", "INBOX", false)
	likeIs(t, "I%", "INBOX", true)
	likeIs(t, "i%", "INBOX", false)
}

// P10.1: a pattern has 0 to 80 bytes.
func TestLikeLengths(t *testing.T) {
	for n := range 90 {
		stars, many := strings.Repeat("*", n), strings.Repeat("%", n)
		likeIs(t, stars, "a/b", n > 0 && n <= 80)
		likeIs(t, stars, x(40), n > 0 && n <= 80)
		likeIs(t, many, x(40), n > 0 && n <= 80)
		likeIs(t, many+"/", "a/b", false)
		likeIs(t, x(n), "a", false)
		likeIs(t, x(40)+stars, x(40), n <= 40)
		likeIs(t, stars+x(40), x(40), n <= 40)
		likeIs(t, x(n), x(40), n == 40)
	}
	pairs := strings.Repeat("*x", 40)
	likeIs(t, pairs, x(40), true)
	likeIs(t, pairs, x(39), false)
	likeIs(t, pairs+"*", x(40), false)
	likeIs(t, strings.Repeat("*", 100000), "a", false)
	likeIs(t, "*", x(41), false)
	likeIs(t, x(41), x(41), false)
}

// P10.1: a pattern that nearly fits, with many stars, takes no more steps than one that does.
func TestLikeSteps(t *testing.T) {
	for _, w := range []string{"*x", "%x", "*%x", "%*x", "*", "%", "x*x", "**x"} {
		p := strings.Repeat(w, 79/len(w)) + "y"
		likeLike(t, p, x(40), x(39)+"y", x(30)+"/"+x(8)+"y", "y", x(20)+"y"+x(19))
	}
}

// P10.1: each byte as a pattern, and in one.
func TestLikeBytes(t *testing.T) {
	for i := range 256 {
		b := string([]byte{byte(i)})
		for _, p := range []string{b, b + "*", "*" + b, "a" + b, b + "a", "a" + b + "c", "*" + b + "*", "%" + b + "%"} {
			likeLike(t, p, "a", b, "ac", "a/c", "a"+b+"c", b+"a", "a"+b, "abc", b+b)
			likeJoin(t, p, "")
			likeJoin(t, "", p)
			likeJoin(t, p, "%")
		}
	}
	for _, b := range []string{"\x1f", " ", "\x7f", "(", ")", "{", `"`, `\`, "\x00", "\r\n", "\xff", "ä"} {
		for _, p := range []string{b, "*" + b, b + "*", "a*" + b + "*"} {
			likeIs(t, p, "a", false)
			likeIs(t, p, "a"+b, false)
			likeIs(t, p, p, false)
		}
	}
}

// P10.1: all patterns of a few bytes, and all names of a few.
func TestLikeAll(t *testing.T) {
	names := []string{}
	for _, s := range texts("ab/", 5) {
		if ownRight(s) || len(s) < 4 {
			names = append(names, s)
		}
	}
	for _, p := range texts("ab/*%", 5) {
		likeLike(t, p, names...)
	}
}

// pick: a text of at most so many of the words.
func pick(r *rand.Rand, words []string, n int) string {
	s := ""
	for range r.Intn(n) {
		s += words[r.Intn(len(words))]
	}
	return s
}

// P10.1: texts of many words, by chance.
func TestLikeChance(t *testing.T) {
	r := rand.New(rand.NewSource(10))
	words := []string{"a", "b", "ab", "/", "c", "INBOX", "inbox"}
	wild := append(slices.Clone(words), "*", "%", "*", "%", "*/", "a%")
	for range 20000 {
		p, s, u := pick(r, wild, 14), pick(r, words, 14), pick(r, wild, 60)
		likeLike(t, p, s)
		likeClean(t, s)
		likeAbove(t, s)
		likeJoin(t, p, s)
		likeJoin(t, p, u)
		likeJoin(t, u, p)
	}
	for range 20000 {
		s := strings.Trim(pick(r, words, 9), "/")
		p := s
		for range 1 + r.Intn(3) {
			if i := r.Intn(len(p) + 1); i < len(p) {
				p = p[:i] + string("*%"[r.Intn(2)]) + p[i+r.Intn(len(p)-i):]
			}
		}
		likeLike(t, p, s)
	}
}

// joinIs: two texts are joined, or aren't, and the model agrees.
func joinIs(t *testing.T, base, more string, may bool) {
	t.Helper()
	s, e := likeJoin(t, base, more)
	if may && (s != base+more || e != api.OK) || !may && (s != "" || e != api.ErrForm) {
		t.Errorf("Join(%.90q, %.90q): %q, %d", base, more, s, e)
	}
}

// P10.1: base and pattern, where both, one or none of them is a pattern, and where it is too long together alone.
func TestJoin(t *testing.T) {
	for _, c := range [][2]string{{"", ""}, {"", "*"}, {"a", ""}, {"a/", "%"}, {"a*", "b%"}, {"/", "/"}, {"INB", "OX"}, {"inbox", "/a"}, {"*", "*"}, {"a//", "//b"}, {"a/b/c/d/", "e"}} {
		joinIs(t, c[0], c[1], true)
	}
	for _, c := range [][2]string{{"a ", "%"}, {"%", " a"}, {" ", ""}, {"", " "}, {"(", ")"}, {"a", "b\x7f"}, {"\x1f", "b"}, {"a", "ä"}, {`"a"`, "b"}, {"a", `\b`}, {"a{", "3}"}} {
		joinIs(t, c[0], c[1], false)
	}
	for n := range 90 {
		joinIs(t, x(n), "", n <= 80)
		joinIs(t, "", x(n), n <= 80)
		joinIs(t, x(40), x(n), n <= 40)
		joinIs(t, strings.Repeat("*", n), x(80-min(n, 80)), n <= 80)
		joinIs(t, x(n), strings.Repeat("%", 81-min(n, 80)), false)
	}
	joinIs(t, x(100000), x(100000), false)
}

// aboveIs: these are above a text, and the model agrees.
func aboveIs(t *testing.T, s string, want ...string) {
	t.Helper()
	if list := likeAbove(t, s); !slices.Equal(list, want) {
		t.Errorf("Above(%q): %q, not %q", s, list, want)
	}
	for _, top := range want {
		if !name.Below(s, top) {
			t.Errorf("%q is not below %q", s, top)
		}
	}
}

// P10.1: what is above a name of one part, of several, and of none.
func TestAbove(t *testing.T) {
	aboveIs(t, "a")
	aboveIs(t, "INBOX")
	aboveIs(t, "a/b", "a")
	aboveIs(t, "a/b/c", "a", "a/b")
	aboveIs(t, "a/b/c/d", "a", "a/b", "a/b/c")
	aboveIs(t, "aa/a/aaa/a", "aa", "aa/a", "aa/a/aaa")
	aboveIs(t, "INBOX/a", "INBOX")
	aboveIs(t, "INBOX/a/inbox", "INBOX", "INBOX/a")
	aboveIs(t, "a/inbox/b", "a", "a/inbox")
	aboveIs(t, x(19)+"/"+x(20), x(19))
	for _, s := range []string{"", "/", "inbox/a", "Inbox/a/b", "a/", "/a", "a//b", "a/b/c/d/e", "a b/c", "a/*", "%/a", x(20) + "/" + x(20), "a/b\x00"} {
		aboveIs(t, s)
	}
}

// P10.1: no name is below itself, nor below what it just begins with, nor below what stands beneath it.
func TestBelow(t *testing.T) {
	for _, c := range []struct {
		s, top string
		want   bool
	}{
		{"a/b", "a", true}, {"a/b/c", "a", true}, {"a/b/c", "a/b", true}, {"INBOX/a", "INBOX", true}, {"a/b/c/d", "a/b/c", true},
		{"a", "a", false}, {"a/b", "a/b", false}, {"a", "a/b", false}, {"ab", "a", false}, {"ab/c", "a", false}, {"a/bc", "a/b", false}, {"a/b", "b", false}, {"a/b", "", false}, {"a", "", false}, {"a/b", "a/", false}, {"a/b", "/a", false}, {"a/b", "A", false},
		{"INBOX/a", "inbox", false}, {"inbox/a", "inbox", false}, {"inbox/a", "INBOX", false}, {"a//b", "a", false}, {"a/b/c/d/e", "a", false}, {"a/b ", "a", false}, {"", "", false}, {"/", "", false}, {"/a", "", false}, {"a/", "a", false}, {"a/b", "%", false}, {"a/b", "*", false},
	} {
		if got := name.Below(c.s, c.top); got != c.want {
			t.Errorf("Below(%q, %q): %t", c.s, c.top, got)
		}
	}
}

// P10.1: a list that was answered may be changed, and no other one is.
func TestAboveAlone(t *testing.T) {
	list, other := name.Above("a/b/c"), name.Above("a/b/c")
	list[0], list[1] = "x", "y"
	_ = append(list[:1], "z")
	if want := []string{"a", "a/b"}; !slices.Equal(other, want) || !slices.Equal(name.Above("a/b/c"), want) {
		t.Errorf("the lists of two calls share something: %q, %q", other, name.Above("a/b/c"))
	}
}

// P10.2: names of each length, with each byte that may be.
func TestStays(t *testing.T) {
	r := rand.New(rand.NewSource(11))
	seen := ""
	for c := byte('!'); c <= '~'; c++ {
		if !strings.ContainsRune(`/(){%*"\`, rune(c)) {
			seen += string(c)
		}
	}
	if len(seen) != 86 {
		t.Fatalf("%d bytes", len(seen))
	}
	for n := 1; n <= 40; n++ {
		for range 50 {
			b := make([]byte, n)
			for i := range b {
				b[i] = seen[r.Intn(len(seen))]
			}
			for range r.Intn(4) {
				if i := r.Intn(n); i > 0 && i < n-1 && b[i-1] != '/' && b[i+1] != '/' {
					b[i] = '/'
				}
			}
			if clean, e := likeClean(t, string(b)); e != api.OK {
				t.Errorf("%q: %q, %d", b, clean, e)
			}
		}
	}
}
