package date

import (
	"strings"

	"escheat/ascii"
)

// reading: of a date; it is wrong as soon as one of its parts is, so that it is enough to ask once, at the end.
type reading struct{ wrong bool }

func (r *reading) need(ok bool) {
	r.wrong = r.wrong || !ok
}

// mail: the day that a mail date's words tell.
func (r *reading) mail(words []string) int {
	if len(words) > 0 && strings.HasSuffix(words[0], ",") {
		r.need(letters(strings.TrimSuffix(words[0], ",")))
		words = words[1:]
	}
	if len(words) == 6 {
		r.need(enclosed(words[5]))
		words = words[:5]
	}
	if len(words) != 5 {
		r.wrong = true
		return 0
	}
	n := r.day(words[0], words[1], words[2])
	r.clock(words[3])
	r.zone(words[4])
	return n
}

// day: of a date that there is, from the year 0000 on.
func (r *reading) day(dom, month, year string) int {
	d, m, y := r.number(dom, 1, 2), r.month(month), r.number(year, 4, 4)
	r.need(there(y, m, d))
	if r.wrong {
		return 0
	}
	return from1970(y, m, d)
}

func (r *reading) month(s string) int {
	for i, m := range months {
		if ascii.Same(s, m.name) {
			return i + 1
		}
	}
	r.wrong = true
	return 0
}

// clock: the seconds since midnight, of hours, minutes, and seconds or not.
func (r *reading) clock(s string) int {
	parts := strings.Split(s, ":")
	if len(parts) == 2 {
		parts = append(parts, "00")
	}
	if len(parts) != 3 {
		r.wrong = true
		return 0
	}
	return r.two(parts[0], 24)*perHour + r.two(parts[1], 60)*perMinute + r.two(parts[2], 60)
}

// zone: by how many seconds the clock there is ahead.
func (r *reading) zone(s string) int {
	if len(s) != len("+0000") {
		r.wrong = true
		return 0
	}
	r.need(s[0] == '+' || s[0] == '-')
	ahead := r.two(s[1:3], 100)*perHour + r.two(s[3:], 60)*perMinute
	if s[0] == '-' {
		return -ahead
	}
	return ahead
}

// two: digits, of a number that is less than below.
func (r *reading) two(s string, below int) int {
	n := r.number(s, 2, 2)
	r.need(n < below)
	return n
}

// number: of least to most digits, and nothing else.
func (r *reading) number(s string, least, most int) int {
	r.need(len(s) >= least && len(s) <= most)
	n := 0
	for i := range len(s) {
		r.need(s[i] >= '0' && s[i] <= '9')
		if r.wrong {
			return 0
		}
		n = n*10 + int(s[i]-'0')
	}
	return n
}

// letters: is it a word of them?
func letters(s string) bool {
	for i := range len(s) {
		if c := ascii.Small(s[i]); c < 'a' || c > 'z' {
			return false
		}
	}
	return s != ""
}

// enclosed: does it begin with ( and end with )?
func enclosed(s string) bool {
	return strings.HasPrefix(s, "(") && strings.HasSuffix(s, ")")
}
