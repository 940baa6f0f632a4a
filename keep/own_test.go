package keep_test

import (
	"fmt"
	"reflect"
	"testing"

	"escheat/api"
	"escheat/keep"
)

// spoil: each byte and each element of all that a value's lists hold is another one, in spare room too.
func spoil(v reflect.Value) {
	switch v.Kind() {
	case reflect.Struct:
		for i := range v.NumField() {
			spoil(v.Field(i))
		}
	case reflect.Slice:
		v = v.Slice(0, v.Cap())
		for i := range v.Len() {
			spoil(v.Index(i))
			spoilElement(v.Index(i))
		}
	}
}

// spoilElement: something in it is another thing; its lists were spoilt ahead of it.
func spoilElement(v reflect.Value) {
	switch v.Kind() {
	case reflect.Struct:
		for i := range v.NumField() {
			spoilElement(v.Field(i))
		}
	case reflect.Array:
		for i := range v.Len() {
			spoilElement(v.Index(i))
		}
	case reflect.String:
		v.SetString("spoilt")
	case reflect.Uint8:
		v.SetUint(v.Uint() ^ 255)
	case reflect.Int:
		v.SetInt(v.Int() ^ 255)
	}
}

// ownMemory: what is lent, spoilt, doesn't change what a call answered; what it answered, spoilt, doesn't change what is lent, nor another answer.
func ownMemory[T any](t *testing.T, what string, call func() T, lent ...any) {
	t.Helper()
	got, other := call(), call()
	before, want := "", told(got)
	for _, v := range lent {
		before += toldRoom(v)
	}
	spoil(reflect.ValueOf(other))
	after := ""
	for _, v := range lent {
		after += toldRoom(v)
	}
	if after != before {
		t.Errorf("%s: an answer, spoilt, changes what was lent", what)
	}
	for _, v := range lent {
		spoil(reflect.ValueOf(v))
	}
	if told(got) != want {
		t.Errorf("%s: what was lent, spoilt, changes an answer", what)
	}
}

// P17.1: what each call answers is memory of its own, beside an error too.
func TestOwn(t *testing.T) {
	c := chain(3)
	s := lent(some())
	ownMemory(t, "Keys", func() []api.Pair { return keep.Keys(s, c) }, s)
	l := lent(ownKeys(some(), c))
	ownMemory(t, "Load", func() loaded {
		s, c, e := keep.Load(l)
		return loaded{s, c, int(e)}
	}, l)
	base, a := archive(t, 400, some(), c, records(3)...)
	full, b := archive(t, 400, some(), c, records(3)...)
	b.Store.Log.Used = 200
	x := lent(a)
	ownMemory(t, "Records", func() [][]byte { return keep.Records(x) }, x)
	for _, d := range []api.Disk{base, littered(400), fallen(base), fresh(3), fresh(7), armed(littered(400), 0), armed(base, 1), armed(littered(400), 5), armed(base, 300), {Fuse: -2, Sectors: fresh(4).Sectors, Loose: littered(4).Loose}} {
		what := fmt.Sprint(len(d.Sectors), " sectors, fuse ", d.Fuse)
		y := lent(d)
		ownMemory(t, "Format of "+what, func() answer { return format(y) }, y)
		z := lent(d)
		ownMemory(t, "Open of "+what, func() answer { return open(z) }, z)
	}
	wrong := a
	wrong.State.Clock++
	for _, d := range []api.Disk{base, full, littered(400), fallen(base), armed(base, 0), armed(littered(400), 1), armed(base, 5), armed(full, 100), {Fuse: -2, Sectors: base.Sectors}} {
		for i, a := range []api.Archive{a, b, wrong} {
			for _, e := range []api.Event{bring("INBOX", "letter"), hold("a", 1, 2, 3, 4), store("a", 0, 3, 2, 9), purge(4), expunge("a", 2, 10), copies("a", "b", 2), {IDs: []int{1}}, create("INBOX")} {
				what := fmt.Sprint("Commit of kind ", e.Kind, ", archive ", i, ", fuse ", d.Fuse)
				y, z, v := lent(d), lent(a), lent(e)
				ownMemory(t, what, func() answer { return commit(y, z, v) }, y, z, v)
			}
		}
	}
}
