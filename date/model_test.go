package date_test

import (
	"math/rand"
	"regexp"
	"strconv"
	"strings"
	"testing"
	"time"

	"escheat/api"
	"escheat/date"
)

// What the chapter's words say, in the tests' own way: texts are matched as a whole, days counted by the library's calendar.

const (
	endDay  = 2932896
	endTime = 253402300799
	daySecs = 86400
)

var names = strings.Fields("Jan Feb Mar Apr May Jun Jul Aug Sep Oct Nov Dec")

const (
	ownMonth = `([Jj][Aa][Nn]|[Ff][Ee][Bb]|[Mm][Aa][Rr]|[Aa][Pp][Rr]|[Mm][Aa][Yy]|[Jj][Uu][Nn]|[Jj][Uu][Ll]|[Aa][Uu][Gg]|[Ss][Ee][Pp]|[Oo][Cc][Tt]|[Nn][Oo][Vv]|[Dd][Ee][Cc])`
	ownYear  = `([0-9]{4})`
	ownHours = `([01][0-9]|2[0-3]):([0-5][0-9])`
	ownZone  = `([+-])([0-9]{2})([0-5][0-9])`
)

var (
	ownInner = regexp.MustCompile(`\A( [0-9]|[0-9]{2})-` + ownMonth + `-` + ownYear + ` ` + ownHours + `:([0-5][0-9]) ` + ownZone + `\z`)
	ownShort = regexp.MustCompile(`\A([0-9]{1,2})-` + ownMonth + `-` + ownYear + `\z`)
	ownMail  = regexp.MustCompile(`\A[ \t]*(?:[A-Za-z]+,[ \t]+)?([0-9]{1,2})[ \t]+` + ownMonth + `[ \t]+` + ownYear + `[ \t]+` + ownHours + `(?::[0-5][0-9])?[ \t]+` + ownZone + `(?:[ \t]+\([^ \t]*\))?[ \t]*\z`)
)

func number(s string) int {
	n, err := strconv.Atoi(strings.TrimSpace(s))
	if err != nil {
		panic(err)
	}
	return n
}

// ownDay: a date's day, of any year, and whether there is such a date.
func ownDay(year, month, dom int) (int, bool) {
	t := time.Date(year, time.Month(month), dom, 0, 0, 0, 0, time.UTC)
	y, m, d := t.Date()
	return int(t.Unix() / daySecs), y == year && int(m) == month && d == dom // whole days: nothing is cut
}

// matchedDay: of the three parts behind the whole match.
func matchedDay(m []string) (int, bool) {
	month := 0
	for i, name := range names {
		if strings.EqualFold(name, m[2]) {
			month = i + 1
		}
	}
	return ownDay(number(m[3]), month, number(m[1]))
}

func ownParse(s string) (int, api.Errno) {
	m := ownInner.FindStringSubmatch(s)
	if m == nil {
		return 0, api.ErrForm
	}
	day, there := matchedDay(m)
	if !there {
		return 0, api.ErrForm
	}
	zone := number(m[8])*60 + number(m[9])
	if m[7] == "+" {
		zone = -zone
	}
	t := day*daySecs + number(m[4])*3600 + (number(m[5])+zone)*60 + number(m[6])
	if t < 0 || t > endTime {
		return 0, api.ErrRange
	}
	return t, api.OK
}

func ownShortDay(s string) (int, api.Errno) {
	if m := ownShort.FindStringSubmatch(s); m != nil {
		if day, there := matchedDay(m); there && day >= 0 {
			return day, api.OK
		}
	}
	return 0, api.ErrForm
}

func ownMailDay(s string) (int, api.Errno) {
	m := ownMail.FindStringSubmatch(s)
	if m == nil || len(s) > 200 {
		return 0, api.ErrForm
	}
	day, there := matchedDay(m)
	if !there {
		return 0, api.ErrForm
	}
	if day < 0 {
		return 0, api.ErrRange
	}
	return day, api.OK
}

// reader is one of the calls that read, and its model.
type reader struct {
	name      string
	call, own func(string) (int, api.Errno)
}

var (
	parse = reader{"Parse", date.Parse, ownParse}
	short = reader{"Short", date.Short, ownShortDay}
	mail  = reader{"Mail", date.Mail, ownMailDay}
)

// is: the call answers so, and the model agrees.
func (r reader) is(t *testing.T, s string, want int, e api.Errno) {
	t.Helper()
	r.asModel(t, s)
	if n, err := r.call(s); n != want || err != e {
		t.Errorf("%s(%q) = %d, %v; want %d, %v", r.name, s, n, int(err), want, int(e))
	}
}

// refused: each of them, by that error.
func (r reader) refused(t *testing.T, e api.Errno, l ...string) {
	t.Helper()
	for _, s := range l {
		r.is(t, s, 0, e)
	}
}

// asModel: the call answers as the model does, twice over, and leaves the text as it was.
func (r reader) asModel(t *testing.T, s string) {
	t.Helper()
	was := strings.Clone(s)
	want, wantE := r.own(s)
	for range 2 {
		if n, e := r.call(s); n != want || e != wantE || s != was {
			t.Errorf("%s(%q) = %d, %v; the model's %d, %v", r.name, was, n, int(e), want, int(wantE))
		}
	}
}

// changed: the text with one thing done to it at one of its places.
func changed(r *rand.Rand, s string) string {
	const bytes = "0123456789 -+:,()\tJjaNMyS/\x00\n\xff"
	c := string(bytes[r.Intn(len(bytes))])
	at := r.Intn(len(s) + 1)
	if at == len(s) {
		return s + c
	}
	switch r.Intn(4) {
	case 0:
		return s[:at] + s[at+1:]
	case 1:
		return s[:at] + c + s[at:]
	case 2:
		other := r.Intn(len(s))
		b := []byte(s)
		b[at], b[other] = b[other], b[at]
		return string(b)
	}
	return s[:at] + c + s[at+1:]
}

// nearby: the text with each byte at each place, in place of what is there, and between; and without each.
func (r reader) nearby(t *testing.T, s string) {
	t.Helper()
	for at := range len(s) + 1 {
		for c := range 256 {
			r.asModel(t, s[:at]+string([]byte{byte(c)})+s[at:])
			if at < len(s) {
				r.asModel(t, s[:at]+string([]byte{byte(c)})+s[at+1:])
			}
		}
		r.asModel(t, s[:at])
		r.asModel(t, s[at:])
		if at < len(s) {
			r.asModel(t, s[:at]+s[at+1:])
		}
	}
}
