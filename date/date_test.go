package date_test

import (
	"fmt"
	"math"
	"math/rand"
	"testing"

	"escheat/api"
	"escheat/date"
)

func printed(t *testing.T, x int, want string, e api.Errno) {
	t.Helper()
	if s, err := date.Print(x); s != want || err != e {
		t.Errorf("Print(%d) = %q, %v; want %q, %v", x, s, int(err), want, int(e))
	}
}

func civil(t *testing.T, day, year, month, dom int) {
	t.Helper()
	if y, m, d := date.Civil(day); y != year || m != month || d != dom {
		t.Errorf("Civil(%d) = %d, %d, %d; want %d, %d, %d", day, y, m, d, year, month, dom)
	}
}

func numbered(t *testing.T, year, month, dom, want int) {
	t.Helper()
	if n := date.Number(year, month, dom); n != want {
		t.Errorf("Number(%d, %d, %d) = %d; want %d", year, month, dom, n, want)
	}
}

// P7.1: the chapter's examples.
func TestExamples(t *testing.T) {
	parse.is(t, "17-Jul-1996 02:44:25 +0000", 837571465, api.OK)
	parse.is(t, "17-Jul-1996 02:44:25 -0700", 837596665, api.OK)
}

// P7.1: what is no time isn't printed; the first and the last one are.
func TestPrint(t *testing.T) {
	printed(t, 0, " 1-Jan-1970 00:00:00 +0000", api.OK)
	printed(t, 1, " 1-Jan-1970 00:00:01 +0000", api.OK)
	printed(t, 59, " 1-Jan-1970 00:00:59 +0000", api.OK)
	printed(t, 60, " 1-Jan-1970 00:01:00 +0000", api.OK)
	printed(t, 3599, " 1-Jan-1970 00:59:59 +0000", api.OK)
	printed(t, 3600, " 1-Jan-1970 01:00:00 +0000", api.OK)
	printed(t, daySecs-1, " 1-Jan-1970 23:59:59 +0000", api.OK)
	printed(t, daySecs, " 2-Jan-1970 00:00:00 +0000", api.OK)
	printed(t, 9*daySecs-1, " 9-Jan-1970 23:59:59 +0000", api.OK)
	printed(t, 9*daySecs, "10-Jan-1970 00:00:00 +0000", api.OK)
	printed(t, 837571465, "17-Jul-1996 02:44:25 +0000", api.OK)
	printed(t, 951825600, "29-Feb-2000 12:00:00 +0000", api.OK)
	printed(t, endTime, "31-Dec-9999 23:59:59 +0000", api.OK)
	for _, x := range []int{-1, -daySecs, math.MinInt, endTime + 1, api.MaxTime, math.MaxInt} {
		printed(t, x, "", api.ErrRange)
	}
}

// P7.1: each month is printed by its name.
func TestPrintMonths(t *testing.T) {
	for i, name := range names {
		day, _ := ownDay(2001, i+1, 15)
		printed(t, day*daySecs, "15-"+name+"-2001 00:00:00 +0000", api.OK)
	}
}

// P7.1: a time's day is cut; ahead of all times there is none.
func TestDay(t *testing.T) {
	for x, want := range map[int]int{0: 0, 1: 0, daySecs - 1: 0, daySecs: 1, 2*daySecs - 1: 1, endTime: endDay, endTime + 1: endDay + 1, math.MaxInt: math.MaxInt / daySecs, -1: -1, -daySecs: -1, -daySecs - 1: -1, math.MinInt: -1} {
		if n := date.Day(x); n != want {
			t.Errorf("Day(%d) = %d; want %d", x, n, want)
		}
	}
}

// P7.1: what is no day has no date.
func TestCivil(t *testing.T) {
	civil(t, 0, 1970, 1, 1)
	civil(t, 364, 1970, 12, 31)
	civil(t, 365, 1971, 1, 1)
	civil(t, 365+365+59, 1972, 2, 29)
	civil(t, 11016, 2000, 2, 29)
	civil(t, endDay, 9999, 12, 31)
	for _, day := range []int{-1, math.MinInt, endDay + 1, endTime, math.MaxInt} {
		civil(t, day, 0, 0, 0)
	}
}

// P7.1: what is no date of 1970 to 9999 has no number.
func TestNumber(t *testing.T) {
	numbered(t, 1970, 1, 1, 0)
	numbered(t, 9999, 12, 31, endDay)
	numbered(t, 2000, 2, 29, 11016)
	wrong := []int{math.MinInt, -1970, -1, 0, 13, 32, 1969, 10000, math.MaxInt}
	for _, x := range wrong {
		numbered(t, x, 1, 1, -1)
		if x < 1 || x > 12 {
			numbered(t, 1996, x, 17, -1)
		}
		if x < 1 || x > 31 {
			numbered(t, 1996, 7, x, -1)
		}
		for _, y := range wrong {
			numbered(t, x, y, 32, -1)
			numbered(t, 1996, x, -y, -1)
		}
	}
	numbered(t, 1969, 12, 31, -1)
	numbered(t, 10000, 1, 1, -1)
	numbered(t, 0, 2, 29, -1)
}

// P7.1: the last day of each month is one, in leap years and in others, centuries among them; the one behind it isn't.
func TestLastDays(t *testing.T) {
	for _, year := range []int{0, 1, 4, 100, 400, 1600, 1700, 1900, 1968, 1969, 1970, 1971, 1972, 1999, 2000, 2001, 2004, 2100, 2200, 2300, 2400, 9996, 9999} {
		for i, name := range names {
			last := []int{31, 28, 31, 30, 31, 30, 31, 31, 30, 31, 30, 31}[i]
			if i == 1 && year%4 == 0 && (year%100 != 0 || year%400 == 0) {
				last = 29
			}
			day, _ := ownDay(year, i+1, last)
			behind, missing := api.ErrRange, api.ErrForm
			if year >= 1970 {
				behind, missing = api.OK, api.OK
				numbered(t, year, i+1, last, day)
			} else {
				day = 0
			}
			parse.is(t, fmt.Sprintf("%d-%s-%04d 00:00:00 +0000", last, name, year), day*daySecs, behind)
			short.is(t, fmt.Sprintf("%d-%s-%04d", last, name, year), day, missing)
			mail.is(t, fmt.Sprintf("%d %s %04d 00:00 +0000", last, name, year), day, behind)

			numbered(t, year, i+1, last+1, -1)
			parse.refused(t, api.ErrForm, fmt.Sprintf("%d-%s-%04d 00:00:00 +0000", last+1, name, year))
			short.refused(t, api.ErrForm, fmt.Sprintf("%d-%s-%04d", last+1, name, year))
			mail.refused(t, api.ErrForm, fmt.Sprintf("%d %s %04d 00:00 +0000", last+1, name, year))
		}
	}
}

// P7.2: each day has a date of its own, which is of that day alone; both rise together.
func TestEachDay(t *testing.T) {
	year, month, dom := 1970, 1, 0
	for day := range endDay + 1 {
		last := []int{31, 28, 31, 30, 31, 30, 31, 31, 30, 31, 30, 31}[month-1]
		if month == 2 && year%4 == 0 && (year%100 != 0 || year%400 == 0) {
			last = 29
		}
		dom++
		if dom > last {
			month, dom = month+1, 1
		}
		if month > 12 {
			year, month = year+1, 1
		}
		if y, m, d := date.Civil(day); y != year || m != month || d != dom {
			t.Fatalf("Civil(%d) = %d, %d, %d; want %d, %d, %d", day, y, m, d, year, month, dom)
		}
		if n := date.Number(year, month, dom); n != day {
			t.Fatalf("Number(%d, %d, %d) = %d; want %d", year, month, dom, n, day)
		}
	}
	if year != 9999 || month != 12 || dom != 31 {
		t.Error("the last day's date:", year, month, dom)
	}
}

// P7.2: of all dates that there might be, just those that are a day's have a number, and that one.
func TestEachDate(t *testing.T) {
	last := -1
	for _, year := range []int{1970, 1971, 1972, 1999, 2000, 2001, 2100, 2400, 9996, 9999} {
		for month := -1; month < 15; month++ {
			for dom := -1; dom < 34; dom++ {
				n := date.Number(year, month, dom)
				if want, there := ownDay(year, month, dom); there && n != want || !there && n != -1 {
					t.Fatal(year, month, dom, n)
				}
				if n == -1 {
					continue
				}
				if n <= last {
					t.Fatal("not rising:", year, month, dom, n)
				}
				last = n
				civil(t, n, year, month, dom)
			}
		}
	}
}

// P7.2: what is printed is parsed as it was, the day of it read as its day.
func TestThereAndBack(t *testing.T) {
	r := rand.New(rand.NewSource(7))
	for i := range 60000 {
		x := int(r.Int63n(endTime + 1))
		switch i % 4 {
		case 0:
			x = i / 4 * 997
		case 1:
			x = endTime - i/4*997
		case 2:
			x = x / daySecs * daySecs // the beginning of a day, or the second ahead of it
			x = max(0, x-i/4%2)
		}
		s, e := date.Print(x)
		if e != api.OK || len(s) != 26 {
			t.Fatal(x, s, int(e))
		}
		parse.is(t, s, x, api.OK)
		year, month, dom := date.Civil(date.Day(x))
		if date.Number(year, month, dom) != x/daySecs {
			t.Fatal(x, year, month, dom)
		}
		short.is(t, fmt.Sprintf("%d-%s-%d", dom, names[month-1], year), x/daySecs, api.OK)
		mail.is(t, fmt.Sprintf("%d %s %d %s", dom, names[month-1], year, s[12:]), x/daySecs, api.OK)
	}
}
