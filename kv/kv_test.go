package kv_test

import (
	"bytes"
	"fmt"
	"math/rand"
	"slices"
	"strings"
	"testing"

	"escheat/api"
	"escheat/kv"
)

// P6.1: the chapter's example.
func TestExample(t *testing.T) {
	x := format(fresh(20))
	x = commit(x.d, x.s, []api.Change{put("a", "1"), put("b", "2")})
	if x.e != api.OK || !slices.Equal(x.s.Pairs, []api.Pair{pair("a", "1"), pair("b", "2")}) {
		t.Fatal(x.s, x.e)
	}
	x = commit(x.d, x.s, []api.Change{gone("a")})
	if x.e != api.OK || !slices.Equal(x.s.Pairs, []api.Pair{pair("b", "2")}) {
		t.Fatal(x.s, x.e)
	}
	y := open(x.d)
	if y.e != api.OK || !slices.Equal(y.s.Pairs, x.s.Pairs) || y.s.Log != (api.Log{Half: 1, Gen: 2, Used: 6, Count: 3}) {
		t.Error(y.s, y.e)
	}
}

// encodes: what Encode answers; and what is read back of it.
func encodes(t *testing.T, what string, l []api.Change, want []byte, e api.Errno) {
	t.Helper()
	b, got := kv.Encode(l)
	if got != e || !bytes.Equal(b, want) {
		t.Errorf("%s: %d bytes, error %d, not %d, %d", what, len(b), got, len(want), e)
	}
	if e != api.OK {
		return
	}
	if back, e := kv.Decode(b); e != api.OK || !slices.Equal(back, l) {
		t.Errorf("%s: read back as %d changes, error %d", what, len(back), e)
	}
}

// P6.1: a transaction's bytes, one by one.
func TestEncode(t *testing.T) {
	none := "\x00\x00\x00\x00\x00\x00\x00\x00"
	one := "\x00\x00\x00\x00\x00\x00\x00\x01"
	two := "\x00\x00\x00\x00\x00\x00\x00\x02"
	for _, x := range []struct {
		l    []api.Change
		want string
	}{
		{nil, none},
		{[]api.Change{}, none},
		{[]api.Change{put("a", "1")}, one + none + "\x00\x00\x00\x01a" + "\x00\x00\x00\x011"},
		{[]api.Change{put("ab", "")}, one + none + "\x00\x00\x00\x02ab" + "\x00\x00\x00\x00"},
		{[]api.Change{gone("a")}, one + one + "\x00\x00\x00\x01a"},
		{[]api.Change{gone("\xff\x00"), put("a", "xyz")}, two + one + "\x00\x00\x00\x02\xff\x00" + none + "\x00\x00\x00\x01a" + "\x00\x00\x00\x03xyz"},
		{[]api.Change{put("a", "1"), put("a", "2")}, two + none + "\x00\x00\x00\x01a" + "\x00\x00\x00\x011" + none + "\x00\x00\x00\x01a" + "\x00\x00\x00\x012"},
	} {
		encodes(t, fmt.Sprint(x.l), x.l, []byte(x.want), api.OK)
	}
	r := rand.New(rand.NewSource(1))
	for i := range 500 {
		l := someChanges(r, r.Intn(20), r.Intn(200))
		encodes(t, fmt.Sprint("chance ", i), l, ownBytes(l), api.OK)
	}
}

// goneKeys: so many changes of unlike keys of so many bytes, all Gone.
func goneKeys(n, size int) []api.Change {
	var l []api.Change
	for i := range n {
		l = append(l, gone(string(rune('a'+i%16))+text(size-1, i)))
	}
	return l
}

// P6.1: each limit of changes, and of their bytes.
func TestEncodeLimits(t *testing.T) {
	long := strings.Repeat("k", 64)
	for name, l := range map[string][]api.Change{
		"a key of 64":            {put(long, "x")},
		"a key of 64 that goes":  {gone(long)},
		"a value of 4096":        {put("a", text(4096, 1))},
		"both":                   {put(long, text(4096, 1))},
		"400 changes":            goneKeys(400, 1),
		"299 puts of 20 bytes":   puts(many(299, 0)),
		"the empty key's next":   {put("\x00", "")},
		"a key that is all high": {put(strings.Repeat("\xff", 64), "\xff")},
	} {
		encodes(t, name, l, ownBytes(l), api.OK)
	}
	for name, l := range map[string][]api.Change{
		"two of 4096":          {put("a", text(4096, 1)), put("b", text(4096, 2))},
		"300 puts of 20 bytes": puts(many(300, 0)),
		"400 gone, long":       goneKeys(400, 4),
		"400 great ones":       puts(many(400, 4096)),
	} {
		encodes(t, name, l, nil, api.ErrLong)
	}
	for i := range justFull(0) {
		full, over := justFull(0)[i], justFull(1)[i]
		if len(ownBytes(full)) != 6000 || len(ownBytes(over)) != 6001 {
			t.Fatal(i, "isn't just full:", len(ownBytes(full)), len(ownBytes(over)))
		}
		encodes(t, fmt.Sprint(i, " of 6000 bytes"), full, ownBytes(full), api.OK)
		encodes(t, fmt.Sprint(i, " of 6001 bytes"), over, nil, api.ErrLong)
	}
}

// justFull: transactions of 6000 bytes, and so many more (0 or 1).
func justFull(more int) [][]api.Change {
	long := strings.Repeat("k", 64)
	return [][]api.Change{
		{put("a", text(4096, 1)), put("b", text(1862+more, 2))},
		{put("a", text(4096, 1)), put("b"+long[:more], text(1862, 2))},
		{gone("c"), put("a", text(4096, 1)), gone(long), put("b", text(1862-13-76+more, 2))},
		{put("a", text(4096, 1)), put("b", text(1862-13, 2)), gone("c" + long[:more])},
		append(goneKeys(392+more, 3), goneKeys(8-more, 2)...),
	}
}

// wrongChanges: changes that may not be.
func wrongChanges() map[string][]api.Change {
	long := strings.Repeat("k", 65)
	return map[string][]api.Change{
		"401 changes":                {400: {}},
		"401 changes that go":        goneKeys(401, 1),
		"401 puts":                   puts(many(401, 1)),
		"401 great ones":             puts(many(401, 4096)),
		"no key":                     {put("", "x")},
		"no key, no value":           {{}},
		"no key that goes":           {gone("")},
		"a key of 65":                {put(long, "")},
		"a key of 65 that goes":      {gone(long)},
		"a key of 5000":              {put(strings.Repeat("k", 5000), "")},
		"a value of 4097":            {put("a", text(4097, 1))},
		"a value of 9000":            {put("a", text(9000, 1))},
		"gone with a value":          {{Key: "a", Val: "b", Gone: true}},
		"gone with a long value":     {{Key: "a", Val: text(4097, 1), Gone: true}},
		"the last one":               {put("a", "1"), put("b", "2"), put("", "3")},
		"the one amid":               {put("a", "1"), put(long, "2"), gone("b")},
		"the first one":              {{Key: "a", Val: "b", Gone: true}, put("a", "1")},
		"the last of too many bytes": {put("a", text(4096, 1)), put("b", text(4096, 2)), gone("")},
	}
}

// P6.1: changes that may not be are refused ahead of their bytes being too many.
func TestEncodeRefused(t *testing.T) {
	for name, l := range wrongChanges() {
		encodes(t, name, l, nil, api.ErrArg)
	}
}

// P6.1, P3.2: what is read of a transaction's bytes, even of more than a record has, is what was laid.
func TestDecode(t *testing.T) {
	long := strings.Repeat("k", 64)
	for name, l := range map[string][]api.Change{
		"none":            nil,
		"one":             {put("a", "1")},
		"some":            {put("b", "2"), gone("a"), put("b", ""), gone("b"), gone("b"), put("\xff\x80", "\x00")},
		"400 that go":     goneKeys(400, 64),
		"400 great ones":  puts(many(400, 4096)),
		"just 6001 bytes": {put("a", text(4096, 1)), put("b", text(1863, 2))},
		"the longest":     {put(long, text(4096, 1)), gone(long), put(long, text(4096, 2))},
	} {
		got, e := kv.Decode(ownBytes(l))
		if e != api.OK || !slices.Equal(got, l) {
			t.Errorf("%s: %d changes, error %d", name, len(got), e)
		}
	}
}

// P6.1: bytes that are no transaction's: each error, and which of them comes first.
func TestDecodeRefused(t *testing.T) {
	n := func(l ...uint64) string {
		var b []byte
		for _, x := range l {
			b = num(b, x)
		}
		return string(b)
	}
	s := func(l ...string) string {
		var b []byte
		for _, x := range l {
			b = txt(b, x)
		}
		return string(b)
	}
	a := n(0) + s("a", "1")
	nameless := n(0) + s("", "1")
	long := strings.Repeat("k", 65)
	much := "\x00\x00\x10\x01" // the text's length 4097
	for _, x := range []struct {
		name, bytes string
		e           api.Errno
	}{
		{"nothing", "", api.ErrShort},
		{"seven bytes", n(0)[:7], api.ErrShort},
		{"a count of 1 alone", n(1), api.ErrShort},
		{"a count of 400 alone", n(400), api.ErrShort},
		{"a count of 401 alone", n(401), api.ErrLong},
		{"a count of 401, and all of them", n(401) + strings.Repeat(a, 401), api.ErrLong},
		{"a count of 2^62", n(1 << 62), api.ErrLong},
		{"a count of 2^62 + 1", n(1<<62 + 1), api.ErrForm},
		{"a count of 2^63", n(1 << 63), api.ErrForm},
		{"a count of 2^64 - 1", n(1<<64 - 1), api.ErrForm},
		{"no change, and a byte", n(0) + "\x00", api.ErrForm},
		{"no change, and a change", n(0) + a, api.ErrForm},
		{"a change too many", n(1) + a + a, api.ErrForm},
		{"a change too few", n(2) + a, api.ErrShort},
		{"a byte that is left", n(1) + a + "x", api.ErrForm},
		{"half a number", n(1) + n(0)[:4], api.ErrShort},
		{"the number 2", n(1, 2) + s("a", "1"), api.ErrForm},
		{"the number 2, no value", n(1, 2) + s("a"), api.ErrForm},
		{"the number 2 alone", n(1, 2), api.ErrForm},
		{"the number 2, a long key", n(1, 2) + much, api.ErrForm},
		{"the number 257", n(1, 257) + s("a"), api.ErrForm},
		{"the number 2^32 + 1", n(1, 1<<32+1) + s("a"), api.ErrForm},
		{"the number 2^62", n(1, 1<<62) + s("a", "1"), api.ErrForm},
		{"the number 2^62 + 1", n(1, 1<<62+1) + s("a"), api.ErrForm},
		{"the number 2^63", n(1, 1<<63) + s("a", "1"), api.ErrForm},
		{"no key", n(1, 0), api.ErrShort},
		{"no key that goes", n(1, 1), api.ErrShort},
		{"half a key's length", n(1, 0) + "\x00\x00\x00", api.ErrShort},
		{"half a key", n(1, 0) + s("abc")[:6], api.ErrShort},
		{"half a key that goes", n(1, 1) + s("abc")[:6], api.ErrShort},
		{"a key of 4097 alone", n(1, 0) + much, api.ErrLong},
		{"a key of 4097", n(1, 0) + much + text(4097, 1) + s("1"), api.ErrLong},
		{"a key of 4097 that goes", n(1, 1) + much + text(4097, 1), api.ErrLong},
		{"a key of 2^32 - 1", n(1, 0) + "\xff\xff\xff\xff", api.ErrLong},
		{"no value", n(1, 0) + s("a"), api.ErrShort},
		{"half a value's length", n(1, 0) + s("a") + "\x00\x00", api.ErrShort},
		{"half a value", n(1, 0) + s("a", "12")[:10], api.ErrShort},
		{"a value of 4097", n(1, 0) + s("a") + much + text(4097, 1), api.ErrLong},
		{"gone with a value", n(1, 1) + s("a", "1"), api.ErrForm},
		{"gone with an empty value", n(1, 1) + s("a", ""), api.ErrForm},
		{"an empty key", n(1) + nameless, api.ErrForm},
		{"an empty key that goes", n(1, 1) + s(""), api.ErrForm},
		{"a key of 65", n(1, 0) + s(long, "1"), api.ErrForm},
		{"a key of 65 that goes", n(1, 1) + s(long), api.ErrForm},
		{"a key of 4096", n(1, 0) + s(text(4096, 1), ""), api.ErrForm},
		{"an empty key behind a right one", n(2) + a + nameless, api.ErrForm},
		{"an empty key, then nothing", n(2) + nameless, api.ErrShort},
		{"an empty key, then a long one", n(2) + nameless + n(0) + much, api.ErrLong},
		{"a key of 65, no value", n(1, 0) + s(long), api.ErrShort},
		{"a key of 65, a value of 4097", n(1, 0) + s(long) + much, api.ErrLong},
		{"the number 2, then a long one", n(2, 2) + s("a", "1") + n(0) + much, api.ErrForm},
		{"the number 2 behind a long one", n(2, 0) + much + n(2) + s("a"), api.ErrLong},
		{"the number 2 behind a right one", n(2) + a + n(2) + s("a", "1"), api.ErrForm},
		{"the last of 400", n(400) + strings.Repeat(a, 399) + n(0) + s("a"), api.ErrShort},
	} {
		l, e := kv.Decode([]byte(x.bytes))
		if e != x.e || len(l) != 0 {
			t.Errorf("%s: %d changes, error %d, not %d", x.name, len(l), e, x.e)
		}
		if _, own := ownDecode([]byte(x.bytes)); own != x.e {
			t.Errorf("%s: the test's own way answers %d", x.name, own)
		}
	}
}

// P6.1: transactions that are cut, or have one bit another one.
func TestDecodeDamaged(t *testing.T) {
	whole := ownBytes([]api.Change{put("ab", "1"), gone("c"), put(text(64, 1), "22"), put("d", ""), gone(text(64, 2))})
	same := func(what string, b []byte) api.Errno {
		t.Helper()
		want, e := ownDecode(b)
		got, ge := kv.Decode(b)
		if ge != e || !slices.Equal(got, want) {
			t.Errorf("%s: %d changes, error %d, not %d, %d", what, len(got), ge, len(want), e)
		}
		if ge == api.OK {
			if back, e := kv.Encode(got); e != api.OK || !bytes.Equal(back, b) {
				t.Errorf("%s: other bytes are read as the same, too", what)
			}
		}
		return ge
	}
	for n := range whole {
		if e := same(fmt.Sprint(n, " bytes"), whole[:n]); e != api.ErrShort {
			t.Errorf("%d bytes: error %d", n, e)
		}
	}
	if e := same("whole", whole); e != api.OK {
		t.Error(e)
	}
	for bit := range 8 * len(whole) {
		b := slices.Clone(whole)
		b[bit/8] ^= 1 << (bit % 8)
		same(fmt.Sprint("bit ", bit), b)
	}
	r := rand.New(rand.NewSource(2))
	for i := range 5000 {
		b := ownBytes(someChanges(r, r.Intn(5), 5))
		for range r.Intn(3) {
			b[r.Intn(len(b))] = byte(r.Intn(4))
		}
		same(fmt.Sprint("chance ", i), b[:len(b)-r.Intn(2)])
	}
}

// P6.1: Do, change by change, and of any.
func TestDo(t *testing.T) {
	there := []api.Pair{pair("a", "1"), pair("ab", "2"), pair("b", "3")}
	for _, x := range []struct {
		name string
		l    []api.Pair
		c    []api.Change
		want []api.Pair
	}{
		{"nothing", nil, nil, nil},
		{"no change", there, nil, there},
		{"no pair", nil, []api.Change{put("b", "1"), put("a", "2")}, []api.Pair{pair("a", "2"), pair("b", "1")}},
		{"a new one ahead", there, []api.Change{put("\x00", "")}, []api.Pair{pair("\x00", ""), pair("a", "1"), pair("ab", "2"), pair("b", "3")}},
		{"a new one amid", there, []api.Change{put("aa\xff", "x")}, []api.Pair{pair("a", "1"), pair("aa\xff", "x"), pair("ab", "2"), pair("b", "3")}},
		{"high bytes come last", there, []api.Change{put("\x80", "x"), put("\xff", "y"), put("~", "z"), put("é", "e")}, []api.Pair{pair("a", "1"), pair("ab", "2"), pair("b", "3"), pair("~", "z"), pair("\x80", "x"), pair("é", "e"), pair("\xff", "y")}},
		{"an equal beginning", there, []api.Change{put("abc", "x"), put("ab\x00", "y")}, []api.Pair{pair("a", "1"), pair("ab", "2"), pair("ab\x00", "y"), pair("abc", "x"), pair("b", "3")}},
		{"another value", there, []api.Change{put("ab", "x")}, []api.Pair{pair("a", "1"), pair("ab", "x"), pair("b", "3")}},
		{"an empty value", there, []api.Change{put("ab", "")}, []api.Pair{pair("a", "1"), pair("ab", ""), pair("b", "3")}},
		{"gone", there, []api.Change{gone("ab")}, []api.Pair{pair("a", "1"), pair("b", "3")}},
		{"gone, not there", there, []api.Change{gone("aa"), gone("c")}, there},
		{"all gone", there, []api.Change{gone("b"), gone("a"), gone("ab")}, nil},
		{"the last change counts", there, []api.Change{put("a", "x"), put("a", "y"), put("a", "z")}, []api.Pair{pair("a", "z"), pair("ab", "2"), pair("b", "3")}},
		{"gone, and there again", there, []api.Change{gone("b"), put("b", "x")}, []api.Pair{pair("a", "1"), pair("ab", "2"), pair("b", "x")}},
		{"there, and gone again", there, []api.Change{put("b", "x"), gone("b"), put("n", "1"), gone("n")}, []api.Pair{pair("a", "1"), pair("ab", "2")}},
	} {
		if got := kv.Do(x.l, x.c); !slices.Equal(got, x.want) {
			t.Errorf("%s: %s, not %s", x.name, short(got), short(x.want))
		}
	}
	r := rand.New(rand.NewSource(3))
	var l []api.Pair
	for i := range 2000 {
		c := someChanges(r, r.Intn(8), 9)
		want := ownDo(l, c)
		if got := kv.Do(l, c); !slices.Equal(got, want) || !ownPairsMayBe(got) {
			t.Fatalf("chance %d: %s, not %s", i, short(got), short(want))
		}
		l = want
	}
	if len(l) < 10 {
		t.Error("chance left", len(l))
	}
	// more than there may be: Do tells them all the same
	if got := kv.Do(many(400, 1), puts(many(401, 2))); !slices.Equal(got, many(401, 2)) {
		t.Error(short(got))
	}
}

// P6.1: a snapshot puts the pairs, in order, as many at once as a record holds.
func TestSnapshot(t *testing.T) {
	check := func(what string, l []api.Pair, records int) {
		t.Helper()
		got := kv.Snapshot(l)
		if len(got) != records {
			t.Errorf("%s: %d records, not %d", what, len(got), records)
		}
		if !slices.EqualFunc(got, ownSnapshot(l), bytes.Equal) {
			t.Errorf("%s: other records", what)
		}
		var back []api.Pair
		for _, b := range got {
			c, e := kv.Decode(b)
			if e != api.OK || len(b) > 6000 {
				t.Errorf("%s: a record of %d bytes, error %d", what, len(b), e)
			}
			back = kv.Do(back, c)
		}
		if !slices.Equal(back, l) {
			t.Errorf("%s: read back as %s", what, short(back))
		}
	}
	check("none", nil, 1)
	if got := kv.Snapshot([]api.Pair{}); len(got) != 1 || !bytes.Equal(got[0], make([]byte, 8)) {
		t.Error(got)
	}
	check("one", many(1, 3), 1)
	check("just full", []api.Pair{pair("a", text(4096, 1)), pair("b", text(1862, 2))}, 1)
	check("one byte more", []api.Pair{pair("a", text(4096, 1)), pair("b", text(1863, 2))}, 2)
	check("one byte more in a key", []api.Pair{pair("a", text(4096, 1)), pair("bb", text(1862, 2))}, 2)
	check("just full, and one", []api.Pair{pair("a", text(4096, 1)), pair("b", text(1862, 2)), pair("c", "")}, 2)
	check("just full, twice", []api.Pair{pair("a", text(4096, 1)), pair("b", text(1862, 2)), pair("c", text(1862, 3)), pair("d", text(4096, 4))}, 2)
	check("a small one amid great ones", []api.Pair{pair("a", text(4096, 1)), pair("b", ""), pair("c", text(4096, 3)), pair("d", "")}, 2)
	// 20 bytes each: 299 of them and the count are 5988, 300 are 6008
	check("299", many(299, 0), 1)
	check("300", many(300, 0), 2)
	check("400", many(400, 0), 2)
	// 40 bytes each: 149 are 5968, 150 are 6008; 32 bytes more are left
	check("149", many(149, 20), 1)
	check("150", many(150, 20), 2)
	check("400 of the greatest", many(400, 4096), 400)
	check("two at once", many(400, 2976), 200)
	check("two are one byte too many", many(400, 2977), 400)
	r := rand.New(rand.NewSource(4))
	for i := range 300 {
		var l []api.Pair
		l = ownDo(l, someChanges(r, r.Intn(300), 1<<r.Intn(13)))
		check(fmt.Sprint("chance ", i), l, len(ownSnapshot(l)))
	}
}

// P6.1: Get and Prefix, of keys that are there and that aren't.
func TestGetAndPrefix(t *testing.T) {
	s := api.Store{Pairs: []api.Pair{pair("a", "1"), pair("a\x00", ""), pair("ab", "3"), pair("abc", "4"), pair("b", "5"), pair("\x80a", "6"), pair("\xff", "7"), pair("\xff\xff", "8")}}
	for i, p := range s.Pairs {
		if x, ok := kv.Get(s, p.Key); x != p.Val || !ok {
			t.Error(i, x, ok)
		}
	}
	for _, key := range []string{"", "aa", "abcd", "ac", "A", "c", "\x80", "\xff\x00", "\xff\xff\xff", strings.Repeat("a", 65)} {
		if x, ok := kv.Get(s, key); x != "" || ok {
			t.Errorf("%q: %q, %v", key, x, ok)
		}
	}
	for prefix, want := range map[string][]api.Pair{
		"": s.Pairs, "a": s.Pairs[:4], "a\x00": s.Pairs[1:2], "ab": s.Pairs[2:4], "abc": s.Pairs[3:4], "abcd": nil, "b": s.Pairs[4:5], "bb": nil, "c": nil, "\x00": nil,
		"\x80": s.Pairs[5:6], "\xff": s.Pairs[6:], "\xff\xff": s.Pairs[7:], "\xff\xff\xff": nil, "\xfe": nil,
	} {
		if got := kv.Prefix(s, prefix); !slices.Equal(got, want) {
			t.Errorf("%q: %s, not %s", prefix, short(got), short(want))
		}
	}
	for _, key := range []string{"", "a"} {
		if x, ok := kv.Get(api.Store{}, key); x != "" || ok || len(kv.Prefix(api.Store{}, key)) != 0 {
			t.Errorf("no pairs, but %q", key)
		}
	}
	// whatever the store: in the order in which they stand
	s.Pairs = []api.Pair{pair("b", "1"), pair("", "2"), pair("ba", "3"), pair("a", "4")}
	if got := kv.Prefix(s, "b"); !slices.Equal(got, []api.Pair{pair("b", "1"), pair("ba", "3")}) {
		t.Error(got)
	}
	for _, p := range s.Pairs {
		if x, ok := kv.Get(s, p.Key); x != p.Val || !ok {
			t.Error(p.Key, x, ok)
		}
	}
}

// P6.1: what is told of pairs shares nothing with the store.
func TestAnswersAlone(t *testing.T) {
	l := many(3, 2)
	for i, got := range [][]api.Pair{kv.Prefix(api.Store{Pairs: l}, ""), kv.Do(l, nil), kv.Do(l, []api.Change{put("x", "1")})} {
		for j := range got {
			got[j] = pair("spoilt", "")
		}
		if !slices.Equal(l, many(3, 2)) {
			t.Error(i, "shares the pairs")
		}
	}
	b := ownBytes(puts(l))
	c, e := kv.Decode(b)
	for i := range b {
		b[i] = 'x'
	}
	if e != api.OK || !slices.Equal(c, puts(l)) {
		t.Error("changes are their bytes", e)
	}
	list := kv.Snapshot(many(400, 2000))
	for i := range list {
		list[i] = append(list[i], 255, 255)[:len(list[i])]
	}
	if !slices.EqualFunc(list, ownSnapshot(many(400, 2000)), bytes.Equal) {
		t.Error("records share their room")
	}
}
