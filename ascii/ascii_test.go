package ascii_test

import (
	"strings"
	"testing"

	"escheat/ascii"
)

const (
	great = "ABCDEFGHIJKLMNOPQRSTUVWXYZ"
	small = "abcdefghijklmnopqrstuvwxyz"
)

// ownSmall: a letter by its place in the alphabet.
func ownSmall(c byte) byte {
	if i := strings.IndexByte(great, c); i >= 0 {
		return small[i]
	}
	return c
}

// What P7.1 and P8.1 lean on: letters alone have a small one.
func TestSmall(t *testing.T) {
	for i := range 256 {
		if c := ascii.Small(byte(i)); c != ownSmall(byte(i)) {
			t.Errorf("Small(%d): %d", i, c)
		}
	}
}

// What P7.1 and P8.1 lean on: two bytes at a place are the same just if their small letters are.
func TestSameBytes(t *testing.T) {
	for i := range 256 {
		for j := range 256 {
			a, b := "x"+string([]byte{byte(i)})+"Y", "X"+string([]byte{byte(j)})+"y"
			if want := ownSmall(byte(i)) == ownSmall(byte(j)); ascii.Same(a, b) != want {
				t.Errorf("Same(%q, %q): not %v", a, b, want)
			}
		}
	}
}

// What P7.1 and P8.1 lean on: texts of two lengths are never the same, nor what just looks so.
func TestSameTexts(t *testing.T) {
	for _, x := range []struct {
		a, b string
		want bool
	}{
		{"", "", true}, {"abc", "ABC", true}, {great, small, true},
		{"", "a", false}, {"a", "", false}, {"ab", "a", false}, {"a", "ab", false}, {"ab", "ba", false},
		{"k", "\u212a", false}, {"s", "\u017f", false}, {"i", "\u0130", false}, {"\u00e4", "\u00c4", false},
	} {
		if got := ascii.Same(x.a, x.b); got != x.want {
			t.Errorf("Same(%q, %q): %v", x.a, x.b, got)
		}
	}
}
