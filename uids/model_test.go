package uids_test

import (
	"math/big"
	"regexp"
	"strings"

	"escheat/api"
)

// What the chapter's words say, in the tests' own way: a text is held against a pattern, and its numbers are great ones of the library; ranges are gone through with both ends in each order.

const (
	least = -1 << 63
	most  = 1<<63 - 1
	top   = 4294967295
)

var (
	wellWritten = regexp.MustCompile(`\A(\*|[1-9][0-9]*)(:(\*|[1-9][0-9]*))?(,(\*|[1-9][0-9]*)(:(\*|[1-9][0-9]*))?)*\z`)
	greatest    = big.NewInt(top)
)

// ownEnd: an end that the pattern has let; is it one?
func ownEnd(s string) (int, bool) {
	if s == "*" {
		return 0, true
	}
	n, _ := new(big.Int).SetString(s, 10)
	if n.Cmp(greatest) > 0 {
		return 0, false
	}
	return int(n.Int64()), true
}

func ownParse(s string) ([]api.Range, api.Errno) {
	if len(s) > 2000 {
		return nil, api.ErrLong
	}
	if !wellWritten.MatchString(s) {
		return nil, api.ErrForm
	}
	l := []api.Range{}
	for _, part := range strings.Split(s, ",") {
		ends := []int{}
		for _, t := range strings.Split(part, ":") {
			n, ok := ownEnd(t)
			if !ok {
				return nil, api.ErrForm
			}
			ends = append(ends, n)
		}
		if len(ends) == 2 && ends[0] == ends[1] {
			return nil, api.ErrForm
		}
		l = append(l, api.Range{From: ends[0], To: ends[len(ends)-1]})
	}
	if len(l) > 60 {
		return nil, api.ErrLong
	}
	return l, api.OK
}

func ownRight(l []api.Range) bool {
	wrong := 0
	for _, r := range l {
		for _, n := range []int{r.From, r.To} {
			if n < 0 || n > top {
				wrong++
			}
		}
	}
	return wrong == 0 && len(l) != 0 && len(l) < 61
}

func ownPrint(l []api.Range) (string, api.Errno) {
	if !ownRight(l) {
		return "", api.ErrArg
	}
	s := ""
	for _, r := range l {
		s += "," + big.NewInt(int64(r.From)).String()
		if r.From != r.To {
			s += ":" + big.NewInt(int64(r.To)).String()
		}
	}
	// No number has a 0 ahead, so that a 0 behind a comma or a colon is the last one.
	s = strings.ReplaceAll(s, ",0", ",*")
	return strings.ReplaceAll(s, ":0", ":*")[1:], api.OK
}

func ownHas(l []api.Range, n, last int) bool {
	for _, r := range l {
		a, b := r.From, r.To
		if a == 0 {
			a = last
		}
		if b == 0 {
			b = last
		}
		if n >= 1 && (a <= n && n <= b || b <= n && n <= a) {
			return true
		}
	}
	return false
}

func ownPick(l []api.Range, nums []int) []int {
	picked := []int{}
	for i := range nums {
		if ownHas(l, nums[i], nums[len(nums)-1]) {
			picked = append(picked, nums[i])
		}
	}
	return picked
}

// ownOf: a range begins where a number has none right ahead of it, and ends where one has none right behind it.
func ownOf(nums []int) []api.Range {
	there := map[int]bool{}
	for _, n := range nums {
		there[n] = true
	}
	l := []api.Range{}
	for _, n := range nums {
		if !there[n-1] {
			l = append(l, api.Range{From: n})
		}
		if !there[n+1] {
			l[len(l)-1].To = n
		}
	}
	return l
}
