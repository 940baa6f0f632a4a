package keep_test

import (
	"fmt"
	"math/rand"
	"testing"

	"escheat/api"
	"escheat/audit"
	"escheat/keep"
	"escheat/sector"
	"escheat/state"
)

// masks: what may stay of so many writes: each choice of few, some of many.
func masks(loose int, r *rand.Rand) []uint64 {
	if loose <= 3 {
		l := make([]uint64, 1<<loose)
		for i := range l {
			l[i] = uint64(i)
		}
		return l
	}
	l := []uint64{0, ^uint64(0), r.Uint64()}
	if loose <= 12 {
		l = append(l, 1, 1<<(loose-1), 1<<(loose-1)-1, r.Uint64())
	}
	return l
}

// either: Open finds the old archive, or the young one, and just its records: their events, done one after another from the first state on, are its state. Opened again, it finds the same. It is told whether it is the young one.
func either(t *testing.T, what string, d api.Disk, old, young api.Archive) bool {
	t.Helper()
	x := open(d)
	if x.Err != 0 {
		t.Fatalf("%s: error %d", what, x.Err)
	}
	a := x.Archive
	isYoung := a.Chain == young.Chain
	want := old
	if isYoung {
		want = young
	}
	if a.Chain != want.Chain || !state.Same(a.State, want.State) {
		t.Fatalf("%s: neither the old state nor the young one, but %s", what, short(told(a.State)))
	}
	l := keep.Records(a)
	s, c, f := audit.Replay(l)
	if f != api.OK || c != a.Chain || !state.Same(s, a.State) || len(l) != a.Chain.Count {
		t.Fatalf("%s: the %d records are another state's: error %d", what, len(l), int(f))
	}
	if told(l) != told(keep.Records(want)) {
		t.Fatalf("%s: other records", what)
	}
	if !keep.Right(x.Disk, a) {
		t.Fatalf("%s: not right", what)
	}
	y := open(x.Disk)
	if y.Err != 0 || y.Archive.Chain != a.Chain || !state.Same(y.Archive.State, a.State) {
		t.Fatalf("%s: opened again: error %d", what, y.Err)
	}
	return isYoung
}

// falls: an event, with a fall at each of its deeds and behind the last one, whatever stays of what wasn't sure; how often the old archive was there, and how often the young one.
func falls(t *testing.T, name string, d api.Disk, a api.Archive, e api.Event, r *rand.Rand, then func(what string, d api.Disk, there api.Archive)) (olds, youngs int) {
	t.Helper()
	whole := commit(d, a, e)
	if whole.Err != 0 {
		t.Fatal(name, whole.Err)
	}
	for fuse := range 1000 {
		x := commit(armed(d, fuse), a, e)
		if x.Err != 0 && x.Err != int(api.ErrDown) {
			t.Fatal(name, fuse, x.Err)
		}
		old := a
		if x.Err == 0 {
			old = whole.Archive
		}
		for _, mask := range masks(len(x.Disk.Loose), r) {
			what := fmt.Sprint(name, ", fall at ", fuse, ", mask ", mask)
			up, _ := sector.Start(x.Disk, mask)
			there := a
			if either(t, what, up, old, whole.Archive) {
				there, youngs = whole.Archive, youngs+1
			} else {
				olds++
			}
			if then != nil {
				then(what, up, there)
			}
		}
		if x.Err == 0 {
			if fuse < 4 {
				t.Error(name, "is done too soon")
			}
			return olds, youngs
		}
	}
	t.Fatal(name, "doesn't end")
	return 0, 0
}

// P17.2: each event of a story, with a fall at each single write.
func TestFall(t *testing.T) {
	r := rand.New(rand.NewSource(1))
	x := format(fresh(300))
	appended, compacted := 0, 0
	for i, step := range story() {
		olds, youngs := falls(t, fmt.Sprint("step ", i), x.Disk, x.Archive, step.e, r, nil)
		if olds < 4 || youngs < 2 {
			t.Error("step", i, olds, youngs)
		}
		y := commit(x.Disk, x.Archive, step.e)
		if y.Archive.Store.Log.Half == x.Archive.Store.Log.Half {
			appended++
		} else {
			compacted++
		}
		x = y
	}
	if appended < 10 || compacted < 1 {
		t.Error(appended, compacted)
	}
}

// P17.2: events that many keys hang on: all of these are there, or none is; on a disk that is compacted for them, too.
func TestFallMany(t *testing.T) {
	r := rand.New(rand.NewSource(2))
	x := format(fresh(300))
	setup := []api.Event{create("a"), create("a/b"), create("a/b/c"), hold("a", 1, 2, 3, 4), lasts("a", 7)}
	for i := range 8 {
		setup = append(setup, at(i, bring("a", fmt.Sprint("letter ", i))))
	}
	for _, e := range setup {
		if x = commit(x.Disk, x.Archive, e); x.Err != 0 {
			t.Fatal(x.Err)
		}
	}
	for _, e := range []api.Event{remove("a"), expunge("a", upTo(8)...), rename("a", "z"), copies("a", "INBOX", upTo(8)...), store("a", 1, 16, upTo(8)...)} {
		falls(t, fmt.Sprint("kind ", e.Kind), x.Disk, x.Archive, e, r, nil)
	}
	// Until the half that the log is in has too little room for what comes.
	for i := 0; x.Archive.Store.Log.Used+12 < 150; i++ {
		if x = commit(x.Disk, x.Archive, store("a", i%2+1, 8, 1)); x.Err != 0 {
			t.Fatal(x.Err)
		}
	}
	half := x.Archive.Store.Log.Half
	for _, e := range []api.Event{remove("a"), expunge("a", upTo(8)...)} {
		if y := commit(x.Disk, x.Archive, e); y.Archive.Store.Log.Half == half {
			t.Error("kind", e.Kind, "isn't compacted")
		}
		falls(t, fmt.Sprint("compacted, kind ", e.Kind), x.Disk, x.Archive, e, r, nil)
	}
}

// P17.2: falls while it is opened, behind a fall of whatever came ahead; what is found then goes on.
func TestFallTwice(t *testing.T) {
	r := rand.New(rand.NewSource(3))
	x := format(fresh(200))
	twice := 0
	for i, step := range story()[:12] {
		name := fmt.Sprint("step ", i)
		falls(t, name, x.Disk, x.Archive, step.e, r, func(what string, d api.Disk, there api.Archive) {
			if r.Intn(4) > 0 {
				return
			}
			fuse := r.Intn(100)
			y := open(armed(d, fuse))
			bare(t, what, y, api.ErrDown)
			twice++
			up, _ := sector.Start(y.Disk, r.Uint64())
			what = fmt.Sprint(what, "; then a fall at ", fuse)
			either(t, what, up, there, there)
			z := open(up)
			after := commit(z.Disk, z.Archive, create("z"))
			if after.Err != 0 {
				t.Fatal(what, "goes on: error", after.Err)
			}
			either(t, what+", goes on", after.Disk, after.Archive, after.Archive)
		})
		x = commit(x.Disk, x.Archive, step.e)
	}
	if twice < 100 {
		t.Error(twice, "falls while it is opened")
	}
}

// P17.2: both outcomes of a fall are seen at the last write alone: ahead of it there is the old archive, behind it the young one.
func TestAllOrNothing(t *testing.T) {
	d, a := played(t, 300, 9)
	e := story()[9].e
	whole := commit(d, a, e)
	fuse := 0
	for commit(armed(d, fuse), a, e).Err != 0 {
		fuse++
	}
	// The last deed is a flush, ahead of it is the mark's write, which is loose then.
	x, y, z := commit(armed(d, fuse-2), a, e), commit(armed(d, fuse-1), a, e), commit(armed(d, fuse), a, e)
	for i, c := range []struct {
		d     api.Disk
		mask  uint64
		young bool
	}{{x.Disk, 0, false}, {x.Disk, ^uint64(0), false}, {y.Disk, 0, false}, {y.Disk, 1, true}, {z.Disk, 0, true}, {z.Disk, 1, true}} {
		up, _ := sector.Start(c.d, c.mask)
		if either(t, fmt.Sprint(i), up, a, whole.Archive) != c.young {
			t.Error(i, "young isn't", c.young)
		}
	}
}

// P17.2: a long story by chance, with falls amid events and while it is opened; what there is is always what was answered last, or what was under way.
func TestFallStory(t *testing.T) {
	r := rand.New(rand.NewSource(4))
	for _, n := range []int{100, 301} {
		fell, went := 0, 0
		for round := range 8 {
			x := format(fresh(n))
			for step := range 150 {
				what := fmt.Sprint(n, " sectors, round ", round, ", step ", step)
				e := someEvent(r, x.Archive.State, 60)
				whole := commit(armed(x.Disk, 10_000), x.Archive, e)
				if whole.Err != 0 {
					continue
				}
				deeds := 10_000 - whole.Disk.Fuse
				if r.Intn(2) == 0 {
					x = answer{Disk: armed(whole.Disk, -1), Archive: whole.Archive}
					continue
				}
				// Mostly it is one of the last deeds at which it falls.
				y := commit(armed(x.Disk, max(0, deeds-1-r.Intn(anyOf(r, []int{1, 3, deeds})))), x.Archive, e)
				if y.Err != int(api.ErrDown) {
					t.Fatal(what, y.Err)
				}
				fell++
				up, _ := sector.Start(y.Disk, r.Uint64())
				there := x.Archive
				if either(t, what, up, x.Archive, whole.Archive) {
					there, went = whole.Archive, went+1
				}
				for {
					z := open(armed(up, r.Intn(2*n)))
					up, _ = sector.Start(z.Disk, r.Uint64())
					if either(t, what+", opened", up, there, there); z.Err == 0 {
						break
					}
				}
				x = open(up)
			}
		}
		if fell < 60 || went < 10 || fell-went < 10 {
			t.Error(n, "sectors: fell", fell, "went", went)
		}
	}
}

// P17.2: a Format that falls leaves no archive, or the first one.
func TestFallFormat(t *testing.T) {
	r := rand.New(rand.NewSource(5))
	first := format(fresh(20)).Archive
	for _, n := range []int{8, 20, 21} {
		for fuse := range 100 {
			x := format(armed(fresh(n), fuse))
			for _, mask := range masks(len(x.Disk.Loose), r) {
				up, _ := sector.Start(x.Disk, mask)
				y := open(up)
				what := fmt.Sprint(n, " sectors, fall at ", fuse, ", mask ", mask)
				if y.Err == int(api.ErrNone) || y.Err == int(api.ErrForm) {
					bare(t, what, y, api.Errno(y.Err))
					if x.Err == 0 {
						t.Errorf("%s: it was answered: error %d", what, y.Err)
					}
					continue
				}
				either(t, what, up, first, first)
			}
			if x.Err == 0 {
				break
			}
		}
	}
}
