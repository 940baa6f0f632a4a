package flag_test

import (
	"strings"

	"escheat/api"
)

// What the chapter's words say, in the tests' own way: flags are the places of their names, and bits are got by halving.

const (
	least = -1 << 63
	most  = 1<<63 - 1
)

// told are the names in the chapter's order; bits, those of them.
var (
	told = strings.Fields(`\Answered \Flagged \Deleted \Seen \Draft`)
	bits = []int{2, 4, 8, 1, 16}
)

// strange are numbers that are no flags.
var strange = []int{-1, 32, -2, -31, -32, -33, 33, 63, 64, 96, 1 << 40, 1<<40 + 9, 1<<32 + 1, -1 << 40, least, least + 1, least + 31, most, most - 1}

// has: has a number this bit, one of the five?
func has(n, bit int) bool {
	for ; bit > 1; bit /= 2 {
		n >>= 1
	}
	return n%2 != 0
}

func ownPrint(n int) string {
	s := "("
	for i, name := range told {
		if has(n, bits[i]) {
			if s != "(" {
				s += " "
			}
			s += name
		}
	}
	return s + ")"
}

// ownOne: great letters are found by their place ahead of the small ones.
func ownOne(name string) (int, api.Errno) {
	b := []byte(name)
	for i, c := range b {
		if strings.IndexByte("ABCDEFGHIJKLMNOPQRSTUVWXYZ", c) >= 0 {
			b[i] = c + 32
		}
	}
	for i, s := range strings.Fields(`\answered \flagged \deleted \seen \draft`) {
		if string(b) == s {
			return bits[i], api.OK
		}
	}
	return 0, api.ErrForm
}

func ownParse(names []string) (int, api.Errno) {
	there := map[int]bool{}
	for _, name := range names {
		n, e := ownOne(name)
		if e != api.OK {
			return 0, e
		}
		there[n] = true
	}
	sum := 0
	for n := range there {
		sum += n
	}
	return sum, api.OK
}

func ownApply(flags, mode, more int) (int, api.Errno) {
	if !ownRight(flags) || !ownRight(more) || mode < 0 || mode > 2 {
		return 0, api.ErrArg
	}
	sum := 0
	for _, bit := range bits {
		was, is := has(flags, bit), has(more, bit)
		if []bool{is, was || is, was && !is}[mode] {
			sum += bit
		}
	}
	return sum, api.OK
}

// ownRight: they are counted out.
func ownRight(n int) bool {
	for i := range 32 {
		if n == i {
			return true
		}
	}
	return false
}
