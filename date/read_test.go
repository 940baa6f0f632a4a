package date_test

import (
	"math/rand"
	"strings"
	"testing"

	"escheat/api"
)

// P7.1: an inner date's parts, each at its edges.
func TestParse(t *testing.T) {
	for s, want := range map[string]int{
		" 1-Jan-1970 00:00:00 +0000": 0,
		"01-Jan-1970 00:00:00 +0000": 0,
		"01-Jan-1970 00:00:00 -0000": 0,
		" 9-Jan-1970 00:00:01 +0000": 8*daySecs + 1,
		"09-Jan-1970 00:01:00 +0000": 8*daySecs + 60,
		"10-Jan-1970 01:00:00 +0000": 9*daySecs + 3600,
		"31-Jan-1970 23:59:59 +0000": 31*daySecs - 1,
		"29-Feb-2000 12:00:00 +0000": 951825600,
		"31-Dec-9999 23:59:59 +0000": endTime,
		"31-Dec-9999 23:59:59 -0000": endTime,
	} {
		parse.is(t, s, want, api.OK)
	}
	parse.refused(t, api.ErrForm,
		"", " ", "1-Jan-1970 00:00:00 +0000", "001-Jan-1970 00:00:00 +0000", "  1-Jan-1970 00:00:00 +0000", " 01-Jan-1970 00:00:00 +0000", "1 -Jan-1970 00:00:00 +0000",
		" 0-Jan-1970 00:00:00 +0000", "00-Jan-1970 00:00:00 +0000", "  -Jan-1970 00:00:00 +0000", "+1-Jan-1970 00:00:00 +0000", "-1-Jan-1970 00:00:00 +0000", "\t1-Jan-1970 00:00:00 +0000",
		"32-Jan-1970 00:00:00 +0000", "99-Jan-1970 00:00:00 +0000", "01-Jax-1970 00:00:00 +0000", "01-   -1970 00:00:00 +0000", "01-001-1970 00:00:00 +0000",
		"01-Ja-1970 00:00:00 +0000 ", "01-January-1970 00:00:00 +0000", "01-Jan-70 00:00:00 +0000", "01-Jan-19700 00:00:00 +0000", "01-Jan-+970 00:00:00 +0000", "01-Jan--970 00:00:00 +0000", "01-Jan-197O 00:00:00 +0000",
		"01-Jan-1970 24:00:00 +0000", "01-Jan-1970 23:60:00 +0000", "01-Jan-1970 23:59:60 +0000", "01-Jan-1970 0:00:000 +0000", "01-Jan-1970 00:00 +0000", "01-Jan-1970 00:00    +0000", "01-Jan-1970 00-00-00 +0000", "01-Jan-1970 00:00:-1 +0000",
		"01-Jan-1970 00:00:00 +0060", "01-Jan-1970 00:00:00 -0060", "01-Jan-1970 00:00:00 +0099", "01-Jan-1970 00:00:00  0000", "01-Jan-1970 00:00:00 00000", "01-Jan-1970 00:00:00 +000", "01-Jan-1970 00:00:00 +00000", "01-Jan-1970 00:00:00 GMT", "01-Jan-1970 00:00:00 +GMT0", "01-Jan-1970 00:00:00 +00-1",
		"01 Jan 1970 00:00:00 +0000", "01-Jan-1970-00:00:00-+0000", "01-Jan-1970\t00:00:00 +0000", "01-Jan-1970  00:00:00 +0000", " 01-Jan-1970 00:00:00 +0000", "01-Jan-1970 00:00:00 +0000 ", "01-Jan-1970 00:00:00 +0000\n", "01-Jan-1970 00:00:00 +0000 (UTC)", "Thu, 01-Jan-1970 00:00:00 +0000",
		"01-Jan-1970", "01-Jan-1970 00:00:00", strings.Repeat(" ", 26), strings.Repeat("0", 26), strings.Repeat("9", 1000),
	)
}

// P7.1: what a zone takes away, or puts to, at its limits and where the times end; minutes from 60 on are none.
func TestZones(t *testing.T) {
	const noon, noonAt = "02-Jan-1980 12:00:00 ", 3653*daySecs + 12*3600
	for zone, ahead := range map[string]int{"+0000": 0, "-0000": 0, "+0001": 60, "-0001": -60, "+0059": 59 * 60, "-0059": -59 * 60, "+0100": 3600, "-0100": -3600, "+2359": daySecs - 60, "-2359": 60 - daySecs, "+2400": daySecs, "-2400": -daySecs, "+9959": 100*3600 - 60, "-9959": 60 - 100*3600, "+1200": 43200, "-1400": -50400, "+0530": 19800} {
		parse.is(t, noon+zone, noonAt-ahead, api.OK)
	}
	for s, want := range map[string]int{
		"01-Jan-1970 00:01:00 +0001": 0,
		"01-Jan-1970 01:00:00 +0100": 0,
		"05-Jan-1970 03:59:00 +9959": 0,
		"05-Jan-1970 03:59:01 +9959": 1,
		"31-Dec-1969 23:59:00 -0001": 0,
		"31-Dec-1969 23:59:59 -0001": 59,
		"27-Dec-1969 20:01:00 -9959": 0,
		"31-Dec-9999 23:58:59 -0001": endTime,
		"31-Dec-9999 23:59:59 +0001": endTime - 60,
		"27-Dec-9999 20:00:59 -9959": endTime,
	} {
		parse.is(t, s, want, api.OK)
	}
	parse.refused(t, api.ErrRange,
		"01-Jan-1970 00:00:00 +0001", "01-Jan-1970 00:00:59 +0001", "01-Jan-1970 00:59:59 +0100", "05-Jan-1970 03:58:59 +9959", "31-Dec-1969 23:59:59 +0000", "31-Dec-1969 23:58:59 -0001", "27-Dec-1969 20:00:59 -9959",
		"31-Dec-9999 23:59:00 -0001", "31-Dec-9999 23:59:59 -0001", "31-Dec-9999 00:00:00 -9959", "27-Dec-9999 20:01:00 -9959", "01-Jan-0000 00:00:00 +9959", "31-Dec-0000 00:00:00 -9959",
	)
}

// P7.1: an inner date of a year below 1970 is one, 0000 a leap year; its form comes first.
func TestParseOrder(t *testing.T) {
	parse.refused(t, api.ErrRange, "31-Dec-1969 00:00:00 +0000", "01-Jan-0000 00:00:00 +0000", "29-Feb-0000 00:00:00 +0000", "29-Feb-1600 23:59:59 -0000", "31-Dec-1969 23:59:59 +9959")
	parse.refused(t, api.ErrForm, "29-Feb-1900 00:00:00 +0000", "30-Feb-0000 00:00:00 +0000", "29-Feb-0100 00:00:00 +0000", "31-Dec-1969 24:00:00 +0000", "31-Dec-1969 00:00:00 +0060", "31-Nov-9999 23:59:59 -0001", "31-Dec-9999 23:59:59 -0060", "29-Feb-9999 23:59:59 -9959")
}

// P7.1: a short date's parts, each at its edges.
func TestShort(t *testing.T) {
	for s, want := range map[string]int{"1-Jan-1970": 0, "01-Jan-1970": 0, "9-Jan-1970": 8, "09-jan-1970": 8, "10-JAN-1970": 9, "1-Feb-1994": 8797, "29-Feb-2000": 11016, "31-Dec-9999": endDay} {
		short.is(t, s, want, api.OK)
	}
	short.refused(t, api.ErrForm,
		"", "-", "--", "---", "1", "1-Feb", "1-Feb-", "-Feb-1994", "1--1994", "0-Feb-1994", "00-Feb-1994", "001-Feb-1994", "32-Jan-1994", "29-Feb-1994", "29-Feb-2100", "31-Jun-2000", "+1-Feb-1994", "1-02-1994", "1-Fe-1994", "1-Febr-1994", "1-February-1994",
		"1-Feb-94", "1-Feb-194", "1-Feb-01994", "1-Feb-+994", "1-Feb-199x", "31-Dec-1969", "1-Feb-0000", "29-Feb-1968", "29-Feb-0000", "1-Feb-10000",
		" 1-Feb-1994", "1-Feb-1994 ", "\t1-Feb-1994", "1 -Feb-1994", "1- Feb-1994", "1-Feb-1994-", "-1-Feb-1994", "1-Feb-1994-1", "1/Feb/1994", "1 Feb 1994", "1-Feb-1994\x00", "1--Feb-1994", "1-Feb--1994", "1-Feb-1994 00:00", strings.Repeat("-", 10000), strings.Repeat("1", 10000),
	)
}

// P7.1: a month is read in small and great letters, of a to z alone.
func TestMonthsLetters(t *testing.T) {
	for i, name := range names {
		day, _ := ownDay(2003, i+1, 20)
		for great := range 8 {
			b := []byte(strings.ToLower(name))
			for at := range b {
				if great>>at&1 == 1 {
					b[at] -= 'a' - 'A'
				}
			}
			m := string(b)
			parse.is(t, "20-"+m+"-2003 00:00:00 +0000", day*daySecs, api.OK)
			short.is(t, "20-"+m+"-2003", day, api.OK)
			mail.is(t, "20 "+m+" 2003 00:00 +0000", day, api.OK)
		}
		for _, m := range []string{"", name[:2], name + "e", " " + name[1:], name[1:] + name[:1], strings.Replace(strings.ToLower(name), "s", "ſ", 1) + "!", name[:2] + string(name[2]^0x80), name[:2] + string([]byte{name[2] &^ 0x60}), name[:2] + string([]byte{name[2] | 0x80})} {
			parse.refused(t, api.ErrForm, "20-"+m+"-2003 00:00:00 +0000")
			short.refused(t, api.ErrForm, "20-"+m+"-2003")
			mail.refused(t, api.ErrForm, "20 "+m+" 2003 00:00 +0000")
		}
	}
	// These are s and k to Unicode's eyes, but none of a to z.
	short.refused(t, api.ErrForm, "20-ſep-2003", "20-Auɡ-2003")
	mail.refused(t, api.ErrForm, "20 ſep 2003 00:00 +0000")
}

// P7.1: a mail date's words, each at its edges.
func TestMail(t *testing.T) {
	const day = 9694
	for _, s := range []string{
		"17 Jul 1996 02:23 +0000", "17 jul 1996 02:23:25 +0000", "Wed, 17 Jul 1996 02:23:25 -0700", "Wed, 17 Jul 1996 02:23:25 -0700 (PDT)", "17 Jul 1996 02:23 +0000 (PDT)",
		"\t17 jul 1996  02:23 +0000 ", " \t Wed, \t17\tJul\t \t1996\t02:23\t+0000\t(x)\t\t", "w, 17 Jul 1996 02:23 +0000", "WEDNESDAY, 17 Jul 1996 02:23 +0000", "Zz, 17 Jul 1996 02:23 +0000", "aAzZ, 17 Jul 1996 02:23 +0000", "Mon, 17 Jul 1996 02:23 +0000",
		"17 Jul 1996 00:00 +0000", "17 Jul 1996 23:59 +0000", "17 Jul 1996 23:59:59 +0000", "17 Jul 1996 00:00:00 +9959", "17 Jul 1996 23:59:59 -9959", "17 Jul 1996 00:00 -0000",
		"17 Jul 1996 02:23 +0000 ()", "17 Jul 1996 02:23 +0000 (()", "17 Jul 1996 02:23 +0000 ())", "17 Jul 1996 02:23 +0000 (a)(b)", "17 Jul 1996 02:23 +0000 (\xff\x00\n)", "17 Jul 1996 02:23 +0000 (é,)",
	} {
		mail.is(t, s, day, api.OK)
	}
	mail.is(t, "1 Jan 1970 00:00 +0000", 0, api.OK)
	mail.is(t, "01 Jan 1970 00:00 +9959", 0, api.OK)
	mail.is(t, "31 Dec 9999 23:59:59 -9959", endDay, api.OK)
	mail.refused(t, api.ErrForm,
		"", " ", "\t", ",", ", 17 Jul 1996 02:23 +0000", "Wed", "Wed,", "Wed 17 Jul 1996 02:23 +0000", "Wed , 17 Jul 1996 02:23 +0000", "Wed,17 Jul 1996 02:23 +0000", "Wed,, 17 Jul 1996 02:23 +0000", "W3d, 17 Jul 1996 02:23 +0000", "Mér, 17 Jul 1996 02:23 +0000", "We-d, 17 Jul 1996 02:23 +0000", "Wed. 17 Jul 1996 02:23 +0000", "[ed, 17 Jul 1996 02:23 +0000", "@ed, 17 Jul 1996 02:23 +0000", "`ed, 17 Jul 1996 02:23 +0000", "{ed, 17 Jul 1996 02:23 +0000", "Wed, Wed, 17 Jul 1996 02:23 +0000", "Wed, 17, Jul 1996 02:23 +0000", "17, Jul 1996 02:23 +0000",
		"0 Jul 1996 02:23 +0000", "00 Jul 1996 02:23 +0000", "017 Jul 1996 02:23 +0000", "32 Jul 1996 02:23 +0000", "x Jul 1996 02:23 +0000", "+7 Jul 1996 02:23 +0000", "17 July 1996 02:23 +0000", "17 7 1996 02:23 +0000", "17 Jul 96 02:23 +0000", "17 Jul 996 02:23 +0000", "17 Jul 01996 02:23 +0000", "17-Jul-1996 02:23 +0000", "Jul 17 1996 02:23 +0000", "17 1996 Jul 02:23 +0000",
		"17 Jul 1996 24:00 +0000", "17 Jul 1996 23:60 +0000", "17 Jul 1996 23:59:60 +0000", "17 Jul 1996 2:23 +0000", "17 Jul 1996 02:3 +0000", "17 Jul 1996 02:23:5 +0000", "17 Jul 1996 02:23: +0000", "17 Jul 1996 02: +0000", "17 Jul 1996 02 +0000", "17 Jul 1996 :02:23 +0000", "17 Jul 1996 02:23:25:00 +0000", "17 Jul 1996 02::23 +0000", "17 Jul 1996 02:23:255 +0000", "17 Jul 1996 02.23 +0000", "17 Jul 1996 0223 +0000", "17 Jul 1996 02 :23 +0000", "17 Jul 1996 ::: +0000",
		"17 Jul 1996 02:23", "17 Jul 1996 02:23 GMT", "17 Jul 1996 02:23 0000", "17 Jul 1996 02:23 00000", "17 Jul 1996 02:23 +000", "17 Jul 1996 02:23 +00000", "17 Jul 1996 02:23 +0060", "17 Jul 1996 02:23 -0060", "17 Jul 1996 02:23 +00:00", "17 Jul 1996 02:23 + 0000", "17 Jul 1996 02:23+0000", "17 Jul 1996 +0000", "17 Jul 1996 02:23 +", "17 Jul 1996 02:23 (PDT)",
		"17 Jul 1996 02:23 +0000 (a", "17 Jul 1996 02:23 +0000 a)", "17 Jul 1996 02:23 +0000 (", "17 Jul 1996 02:23 +0000 )", "17 Jul 1996 02:23 +0000 PDT", "17 Jul 1996 02:23 +0000 (a b)", "17 Jul 1996 02:23 +0000 (a\tb)", "17 Jul 1996 02:23 +0000 (a) (b)", "17 Jul 1996 02:23 +0000 (a),", "17 Jul 1996 02:23 +0000(a)", "17 Jul 1996 02:23 (a) +0000", "(a) 17 Jul 1996 02:23 +0000", "17 Jul 1996 02:23 +0000 x",
		"17\nJul 1996 02:23 +0000", "\n17 Jul 1996 02:23 +0000", "17 Jul 1996 02:23 +0000\r\n", "17 Jul 1996\v02:23 +0000", "17 Jul\u00a01996 02:23 +0000", "\u30001 Jul 1996 02:23 +0000", "17 Jul 1996 02:23 +0000\x00",
	)
}

// P7.1: a mail date of a year below 1970 is one, 0000 a leap year; its form, and its day, come first.
func TestMailOrder(t *testing.T) {
	mail.refused(t, api.ErrRange, "31 Dec 1969 23:59:59 -9959", "17 Jul 0000 02:23 +0000", "29 Feb 0000 02:23 +0000", "Thu, 29 Feb 1968 02:23 +0000 (x)", "29 Feb 1600 02:23 +0000", "1 Jan 0000 00:00 +9959")
	mail.refused(t, api.ErrForm, "29 Feb 1969 02:23 +0000", "29 Feb 1900 02:23 +0000", "30 Feb 0000 02:23 +0000", "31 Dec 1969 24:00 +0000", "31 Dec 1969 23:59 +0060", "31 Dec 1969 23:59", "31 Dec 1969 23:59 +0000 x", "1, 31 Dec 1969 23:59 +0000")
}

// P7.1: a mail date has at most 200 bytes, those at its ends among them.
func TestMailLong(t *testing.T) {
	for year, want := range map[string]api.Errno{"1996": api.OK, "1969": api.ErrRange} {
		s := "17 Jul " + year + " 02:23 +0000"
		day := 0
		if want == api.OK {
			day = 9694
		}
		for _, long := range []func(n int) string{
			func(n int) string { return strings.Repeat(" ", n) + s },
			func(n int) string { return s + strings.Repeat("\t", n) },
			func(n int) string { return strings.Replace(s, " ", strings.Repeat(" ", n+1), 1) },
			func(n int) string { return strings.Repeat("w", n-2) + ", " + s },
			func(n int) string { return s + " (" + strings.Repeat("x", n-3) + ")" },
		} {
			at := long(200 - len(s))
			if len(at) != 200 {
				t.Fatal(len(at))
			}
			mail.is(t, at, day, want)
			mail.refused(t, api.ErrForm, long(201-len(s)), long(202-len(s)), long(100000))
		}
	}
}

// P7.1: near a date nothing is taken for one that isn't, whatever byte stands at a place, or fails there.
func TestNearby(t *testing.T) {
	for _, s := range []string{"17-Jul-1996 02:44:25 +0000", " 1-Jan-1970 00:00:59 -0100", "29-Feb-2000 23:59:59 +9959", "31-Dec-9999 00:00:00 -0059"} {
		parse.nearby(t, s)
	}
	for _, s := range []string{"17-Jul-1996", "1-Jan-1970", "29-Feb-2000", "31-Dec-9999"} {
		short.nearby(t, s)
	}
	for _, s := range []string{"17 Jul 1996 02:23 +0000", "Wed, 17 Jul 1996 02:23:25 -0700 (PDT)", "\t9 Feb 1970 23:59:59 -9959 ()"} {
		mail.nearby(t, s)
	}
}

// P7.1: dates with a few things done to them, and any bytes.
func TestAnyTexts(t *testing.T) {
	r := rand.New(rand.NewSource(71))
	begins := []string{"17-Jul-1996 02:44:25 +0000", " 1-Jan-1970 00:00:00 +0000", "31-Dec-9999 23:59:59 -0001", "29-Feb-0000 12:34:56 -0700", "1-Feb-1994", "30-Nov-1970", "17 Jul 1996 02:23 +0000", "Wed, 29 Feb 2000 02:23:25 -0700 (PDT)", "Thu, 31 Dec 1969 23:59 +0000", ""}
	for range 60000 {
		s := begins[r.Intn(len(begins))]
		for range r.Intn(4) {
			s = changed(r, s)
		}
		parse.asModel(t, s)
		short.asModel(t, s)
		mail.asModel(t, s)
	}
	for range 20000 {
		b := make([]byte, r.Intn(40))
		r.Read(b)
		parse.asModel(t, string(b))
		short.asModel(t, string(b))
		mail.asModel(t, string(b))
	}
}

// P7.1: dates put together of parts that are right, or nearly so.
func TestParts(t *testing.T) {
	r := rand.New(rand.NewSource(72))
	one := func(l ...string) string { return l[r.Intn(len(l))] }
	for range 60000 {
		dom := one("1", "01", "9", "28", "29", "30", "31", " 1", "0", "32")
		month := names[r.Intn(12)]
		year := one("0000", "1900", "1968", "1969", "1970", "1972", "2000", "2001", "2100", "9999", "99")
		clock := one("00:00:00", "23:59:59", "12:34:56", "00:00", "23:59", "24:00:00", "23:60:00", "7:00")
		zone := one("+0000", "-0000", "+0001", "-0001", "+9959", "-9959", "+0060", "0000", "UTC")
		by := one(" ", "\t", "  ", " \t ")
		parse.asModel(t, dom+"-"+month+"-"+year+" "+clock+" "+zone)
		short.asModel(t, dom+"-"+month+"-"+year)
		mail.asModel(t, one("", " ", "Wed, ", "x,\t", "Wed ", ",", "W, ")+dom+by+month+by+year+by+clock+by+zone+one("", "", " ", " (x)", "\t()\t", " x", " (x"))
	}
}
