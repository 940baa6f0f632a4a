package name_test

import (
	"regexp"
	"slices"
	"strings"
	"testing"

	"escheat/api"
	"escheat/name"
)

// What the chapter's words say, in the tests' own way: names and patterns are held against patterns of the library, and a pattern is made one of these.

const letters = `[!#$&'+,\-./0-9:;<=>?@A-Z\[\]^_` + "`" + `a-z|}~]`

var (
	wellFormed = regexp.MustCompile(`\A[^/]+(/[^/]+){0,3}\z`)
	allOfThem  = regexp.MustCompile(`\A` + letters + `*\z`)
	pattern    = regexp.MustCompile(`\A(` + letters + `|[*%])*\z`)
	anInbox    = regexp.MustCompile(`\A[Ii][Nn][Bb][Oo][Xx](/|\z)`)
	theInbox   = regexp.MustCompile(`\AINBOX(/|\z)`)
)

func ownClean(s string) (string, api.Errno) {
	if len(s) > 40 || !allOfThem.MatchString(s) || !wellFormed.MatchString(s) {
		return "", api.ErrForm
	}
	return anInbox.ReplaceAllString(s, "INBOX$1"), api.OK
}

func ownRight(s string) bool {
	_, e := ownClean(s)
	return e == api.OK && (!anInbox.MatchString(s) || theInbox.MatchString(s))
}

func ownPattern(s string) bool { return len(s) <= 80 && pattern.MatchString(s) }

// ownLike: a pattern as one of the library.
func ownLike(s string) *regexp.Regexp {
	quoted := regexp.QuoteMeta(s)
	quoted = strings.ReplaceAll(quoted, `\*`, `.*`)
	return regexp.MustCompile(`\A` + strings.ReplaceAll(quoted, `%`, `[^/]*`) + `\z`)
}

func ownAbove(s string) []string {
	list := []string{}
	if !ownRight(s) {
		return list
	}
	for s = s + "/"; ; {
		s = s[:len(s)-1]
		i := strings.LastIndex(s, "/")
		if i < 0 {
			slices.Reverse(list)
			return list
		}
		list = append(list, s[:i])
		s = s[:i+1]
	}
}

// likeClean: a text is a name, and right, as the model says; what is clean stays.
func likeClean(t *testing.T, s string) (string, api.Errno) {
	t.Helper()
	given := strings.Clone(s)
	clean, e := name.Clean(given)
	if want, f := ownClean(s); clean != want || e != f {
		t.Errorf("Clean(%.90q): %q, %d, not %q, %d", s, clean, e, want, f)
	}
	if ok := name.Right(given); ok != ownRight(s) {
		t.Errorf("Right(%.90q): %t", s, ok)
	}
	if given != s {
		t.Errorf("%q has become %q", s, given)
	}
	if e == api.OK {
		stays(t, clean)
	}
	return clean, e
}

// stays: what is clean is right, is cleaned to itself, is like itself, and like *.
func stays(t *testing.T, clean string) {
	t.Helper()
	if again, e := name.Clean(clean); again != clean || e != api.OK || !name.Right(clean) {
		t.Errorf("%q is clean, but not right, or is cleaned to %q, %d", clean, again, e)
	}
	if !name.Like(clean, clean) || !name.Like("*", clean) {
		t.Errorf("%q is not like itself, or not like *", clean)
	}
}

// likeAbove: what is above a text is what the model says, and Below says so of just that.
func likeAbove(t *testing.T, s string) []string {
	t.Helper()
	given := strings.Clone(s)
	list := name.Above(given)
	if !slices.Equal(list, ownAbove(s)) || given != s {
		t.Errorf("Above(%.90q): %q, not %q", s, list, ownAbove(s))
	}
	for i := range len(s) + 1 {
		if i > 45 {
			break
		}
		if top := s[:i]; name.Below(given, top) != slices.Contains(ownAbove(s), top) {
			t.Errorf("Below(%.90q, %q): %t", s, top, name.Below(s, top))
		}
	}
	return list
}

// likeJoin: two texts are joined as the model says.
func likeJoin(t *testing.T, base, more string) (string, api.Errno) {
	t.Helper()
	s, e := name.Join(base, more)
	want, f := base+more, api.OK
	if !ownPattern(want) {
		want, f = "", api.ErrForm
	}
	if s != want || e != f {
		t.Errorf("Join(%.90q, %.90q): %q, %d, not %q, %d", base, more, s, e, want, f)
	}
	return s, e
}

// likeLike: names are like a pattern as the model says.
func likeLike(t *testing.T, p string, names ...string) {
	t.Helper()
	may, own := ownPattern(p), regexp.MustCompile(``)
	if may {
		own = ownLike(p)
	}
	for _, s := range names {
		want := may && ownRight(s) && own.MatchString(s)
		if got := name.Like(p, s); got != want {
			t.Errorf("Like(%.90q, %.90q): %t", p, s, got)
		}
	}
}
