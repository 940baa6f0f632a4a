package sector_test

import (
	"math"
	"slices"
	"testing"

	"escheat/api"
	"escheat/sector"
)

const (
	mostLoose = 100_000
	mostFuse  = 1 << 40
)

func fill(x byte) [api.Sector]byte {
	var s [api.Sector]byte
	for i := range s {
		s[i] = x
	}
	return s
}

// disk: one of so many sectors, sector i of the bytes i, with writes that aren't sure.
func disk(sectors int, loose ...api.Write) api.Disk {
	d := api.Disk{Fuse: -1, Loose: loose}
	for i := range sectors {
		d.Sectors = append(d.Sectors, fill(byte(i)))
	}
	return d
}

func write(at int, x byte) api.Write { return api.Write{At: at, Data: fill(x)} }

// deep: a disk that shares nothing with d.
func deep(d api.Disk) api.Disk {
	d.Sectors = slices.Clone(d.Sectors)
	d.Loose = slices.Clone(d.Loose)
	return d
}

func expect(t *testing.T, what string, got api.Disk, e api.Errno, want api.Disk, wantErr api.Errno) {
	t.Helper()
	if e != wantErr {
		t.Errorf("%s: error %d, not %d", what, e, wantErr)
	}
	if got.Fuse != want.Fuse || got.Down != want.Down {
		t.Errorf("%s: fuse %d, down %v, not %d, %v", what, got.Fuse, got.Down, want.Fuse, want.Down)
	}
	if !slices.Equal(got.Sectors, want.Sectors) {
		t.Errorf("%s: other sectors", what)
	}
	if !slices.Equal(got.Loose, want.Loose) {
		t.Errorf("%s: other loose writes", what)
	}
}

// P1.1: New.
func TestNew(t *testing.T) {
	for _, n := range []int{0, 1, 2, 4095, 4096} {
		d, e := sector.New(n)
		expect(t, "new", d, e, api.Disk{Sectors: make([][api.Sector]byte, n), Fuse: -1}, api.OK)
		if !sector.Right(d) {
			t.Error(n, "isn't right")
		}
	}
	for _, n := range []int{-1, 4097, math.MinInt, math.MaxInt} {
		d, e := sector.New(n)
		expect(t, "new", d, e, api.Disk{}, api.ErrArg)
	}
}

// wrong: disks that may not be.
func wrong() map[string]api.Disk {
	with := func(d api.Disk, fuse int, down bool) api.Disk {
		d.Fuse, d.Down = fuse, down
		return d
	}
	return map[string]api.Disk{
		"fuse -2":               with(disk(2), -2, false),
		"fuse -2, down":         with(disk(2), -2, true),
		"fuse lowest":           with(disk(2), math.MinInt, false),
		"fuse 2^40 + 1":         with(disk(2), mostFuse+1, false),
		"fuse highest":          with(disk(2), math.MaxInt, false),
		"4097 sectors":          disk(4097),
		"write to -1":           disk(2, write(-1, 9)),
		"write to lowest":       disk(2, write(math.MinInt, 9)),
		"write behind all":      disk(2, write(2, 9)),
		"write to highest":      disk(2, write(math.MaxInt, 9)),
		"write to none":         disk(0, write(0, 9)),
		"first write is wrong":  disk(2, write(2, 9), write(0, 9), write(1, 9)),
		"middle write is wrong": disk(2, write(1, 9), write(2, 9), write(1, 9)),
		"last write is wrong":   disk(2, write(1, 9), write(0, 9), write(2, 9)),
		"100,001 loose writes":  disk(2, make([]api.Write, mostLoose+1)...),
	}
}

// P1.1: Right, at the limits and beyond.
func TestRight(t *testing.T) {
	good := []api.Disk{
		disk(0), disk(1), disk(4096), {},
		disk(2, write(0, 1), write(1, 2), write(0, 3)),
		disk(4096, write(4095, 1)),
		disk(2, make([]api.Write, mostLoose)...),
		{Fuse: mostFuse}, {Fuse: -1}, {Fuse: 0, Down: true}, {Fuse: 7, Down: true},
	}
	for i, d := range good {
		if !sector.Right(d) {
			t.Error(i, "may be")
		}
	}
	for name, d := range wrong() {
		if sector.Right(d) {
			t.Error(name, "may not be")
		}
	}
}

// P1.1: a disk that may not be is refused by each call, and handed back.
func TestWrongDisk(t *testing.T) {
	for name, d := range wrong() {
		got, e := sector.Put(d, 0, fill(8))
		expect(t, "put: "+name, got, e, d, api.ErrArg)
		got, e = sector.Flush(d)
		expect(t, "flush: "+name, got, e, d, api.ErrArg)
		got, e = sector.Start(d, 3)
		expect(t, "start: "+name, got, e, d, api.ErrArg)
		got, e = sector.Arm(d, 1)
		expect(t, "arm: "+name, got, e, d, api.ErrArg)
		if x, e := sector.Read(d, 1); e != api.ErrArg || x != fill(0) {
			t.Error("read:", name, e)
		}
	}
}

// P1.1: a sector that isn't there is refused ahead of all else, and is no deed.
func TestNoSuchSector(t *testing.T) {
	for _, n := range []int{0, 3} {
		for _, at := range []int{-1, n, n + 1, math.MinInt, math.MaxInt} {
			for _, fuse := range []int{-1, 0, 5} {
				for _, down := range []bool{false, true} {
					d := disk(n)
					d.Fuse, d.Down = fuse, down
					got, e := sector.Put(d, at, fill(8))
					expect(t, "put", got, e, d, api.ErrArg)
					if x, e := sector.Read(d, at); e != api.ErrArg || x != fill(0) {
						t.Error(n, at, e)
					}
				}
			}
		}
	}
}

// P1.1: Read tells the last loose write, or what is sure, and is no deed.
func TestRead(t *testing.T) {
	d := disk(5, write(1, 21), write(3, 22), write(1, 23), write(0, 24), write(1, 25), write(4, 0))
	for _, fuse := range []int{-1, 0, 5} {
		d.Fuse = fuse
		for at, x := range []byte{24, 25, 2, 22, 0} {
			if got, e := sector.Read(d, at); e != api.OK || got != fill(x) {
				t.Error(at, got, e)
			}
		}
	}
	d.Down = true
	for at := range d.Sectors {
		if got, e := sector.Read(d, at); e != api.ErrDown || got != fill(0) {
			t.Error(at, got, e)
		}
	}
}

// P1.1: Put is one loose write more, behind the others.
func TestPut(t *testing.T) {
	d, e := sector.Put(disk(3), 2, fill(9))
	expect(t, "first", d, e, disk(3, write(2, 9)), api.OK)
	d, e = sector.Put(d, 2, fill(8))
	expect(t, "second", d, e, disk(3, write(2, 9), write(2, 8)), api.OK)
	d, e = sector.Put(d, 0, fill(7))
	expect(t, "third", d, e, disk(3, write(2, 9), write(2, 8), write(0, 7)), api.OK)
	last, _ := sector.New(4096)
	if last, e = sector.Put(last, 4095, fill(6)); e != api.OK || last.Loose[0] != write(4095, 6) {
		t.Error(e)
	}
}

// P1.1: Flush makes the view sure.
func TestFlush(t *testing.T) {
	d, e := sector.Flush(disk(4, write(1, 21), write(3, 22), write(1, 23)))
	want := disk(4)
	want.Sectors[1], want.Sectors[3] = fill(23), fill(22)
	expect(t, "flush", d, e, want, api.OK)
	d, e = sector.Flush(d)
	expect(t, "again", d, e, want, api.OK)
	d, e = sector.Flush(disk(0))
	expect(t, "of nothing", d, e, disk(0), api.OK)
}

// P1.1: what deeds do to Fuse.
func TestFuse(t *testing.T) {
	for before, behind := range map[int]int{-1: -1, 1: 0, 2: 1, mostFuse: mostFuse - 1} {
		d := disk(2, write(0, 5))
		d.Fuse = before
		want := disk(2, write(0, 5), write(1, 6))
		want.Fuse = behind
		got, e := sector.Put(d, 1, fill(6))
		expect(t, "put", got, e, want, api.OK)
		want = disk(2)
		want.Sectors[0], want.Fuse = fill(5), behind
		got, e = sector.Flush(d)
		expect(t, "flush", got, e, want, api.OK)
	}
}

// P1.1: a deed that finds Fuse 0 makes the disk fall, and changes nothing else; one on a disk that is down changes nothing.
func TestFall(t *testing.T) {
	for _, d := range []api.Disk{
		{Sectors: disk(2).Sectors, Loose: []api.Write{write(0, 5)}, Fuse: 0},
		{Sectors: disk(2).Sectors, Loose: []api.Write{write(0, 5)}, Fuse: 0, Down: true},
		{Sectors: disk(2).Sectors, Loose: []api.Write{write(0, 5)}, Fuse: 3, Down: true},
		{Sectors: disk(2).Sectors, Loose: []api.Write{write(0, 5)}, Fuse: -1, Down: true},
	} {
		want := deep(d)
		want.Down = true
		got, e := sector.Put(d, 1, fill(6))
		expect(t, "put", got, e, want, api.ErrDown)
		got, e = sector.Flush(d)
		expect(t, "flush", got, e, want, api.ErrDown)
	}
}

// P1.1: so many deeds as Arm tells are done, and then none.
func TestArmed(t *testing.T) {
	for fuse := range 6 {
		d, e := sector.Arm(disk(2), fuse)
		if e != api.OK {
			t.Fatal(e)
		}
		done := 0
		for i := range 6 {
			if i%2 == 0 {
				d, e = sector.Put(d, 0, fill(byte(i)))
			} else {
				d, e = sector.Flush(d)
			}
			if e == api.OK {
				done++
			}
		}
		if done != fuse || !d.Down {
			t.Error(fuse, done, d.Down)
		}
	}
}

// P1.1: Arm.
func TestArm(t *testing.T) {
	for _, down := range []bool{false, true} {
		d := disk(2, write(1, 7))
		d.Fuse, d.Down = 4, down
		for _, fuse := range []int{-1, 0, 1, mostFuse} {
			want := deep(d)
			want.Fuse = fuse
			got, e := sector.Arm(d, fuse)
			expect(t, "arm", got, e, want, api.OK)
		}
		for _, fuse := range []int{-2, mostFuse + 1, math.MinInt, math.MaxInt} {
			got, e := sector.Arm(d, fuse)
			expect(t, "arm", got, e, d, api.ErrArg)
		}
	}
}

// P1.1: Start does just the writes of the mask, in order, up or down.
func TestStart(t *testing.T) {
	loose := []api.Write{write(0, 21), write(1, 22), write(0, 23), write(0, 24)}
	for mask := range uint64(16) {
		for _, down := range []bool{false, true} {
			d := disk(3, loose...)
			d.Fuse, d.Down = 5, down
			want := disk(3)
			for i, w := range loose {
				if mask>>i&1 == 1 {
					want.Sectors[w.At] = w.Data
				}
			}
			got, e := sector.Start(d, mask)
			expect(t, "start", got, e, want, api.OK)
			got, e = sector.Start(d, mask|1<<63|1<<4)
			expect(t, "start, bits of no write", got, e, want, api.OK)
		}
	}
	got, e := sector.Start(api.Disk{Down: true}, math.MaxUint64)
	expect(t, "start of nothing", got, e, disk(0), api.OK)
}

// P1.1: the bits of a mask repeat behind 64 writes.
func TestMaskRepeats(t *testing.T) {
	const n = 200
	var loose []api.Write
	for i := range n {
		loose = append(loose, write(i, byte(255-i%2)))
	}
	for _, mask := range []uint64{0, 1, 2, 1 << 31, 1 << 32, 1 << 63, 1<<63 | 1, 0x0123456789abcdef, math.MaxUint64} {
		want := disk(n)
		for i, w := range loose {
			if mask&(1<<(i%64)) != 0 {
				want.Sectors[i] = w.Data
			}
		}
		got, e := sector.Start(disk(n, loose...), mask)
		expect(t, "start", got, e, want, api.OK)
	}
	// Of one sector the last write that stays holds, in whichever sixty-four it is.
	for i := range loose {
		loose[i] = write(0, byte(i))
	}
	for mask, x := range map[uint64]byte{1: 192, 1 << 7: 199, 1 << 8: 136, 1 << 63: 191, 1<<8 | 1: 192, math.MaxUint64: 199} {
		if got, e := sector.Start(disk(1, loose...), mask); e != api.OK || got.Sectors[0] != fill(x) {
			t.Error(mask, got.Sectors[0][0], e)
		}
	}
}

// P1.1: as many loose writes as may be are taken by each call; with one more the disk may not be.
func TestMostLoose(t *testing.T) {
	loose := make([]api.Write, mostLoose)
	for i := range loose {
		loose[i].At = i % 2
		loose[i].Data[0] = byte(i / 2 % 251)
	}
	d := disk(3, loose...)
	lastOf := func(i int) [api.Sector]byte { return loose[mostLoose-2+i].Data }
	if x, e := sector.Read(d, 0); e != api.OK || x != lastOf(0) {
		t.Error(e)
	}
	want := disk(3)
	want.Sectors[0], want.Sectors[1] = lastOf(0), lastOf(1)
	got, e := sector.Flush(d)
	expect(t, "flush", got, e, want, api.OK)
	got, e = sector.Start(d, math.MaxUint64)
	expect(t, "start", got, e, want, api.OK)
	got, e = sector.Put(disk(3, loose[:mostLoose-1]...), 1, loose[mostLoose-1].Data)
	expect(t, "put, the last one that may be", got, e, d, api.OK)
	got, e = sector.Put(d, 2, fill(9))
	expect(t, "put, one more", got, e, disk(3, append(slices.Clone(loose), write(2, 9))...), api.OK)
	over, e := sector.Flush(got)
	expect(t, "flush, one more", over, e, got, api.ErrArg)
}

// P1.1: Same looks at each field; nil and empty are the same; disks that may not be are compared too.
func TestSame(t *testing.T) {
	d := disk(2, write(0, 5), write(1, 6))
	others := []api.Disk{d, d, d, d, d, d, d, d, d}
	others[0].Fuse = 0
	others[1].Down = true
	others[2].Sectors = d.Sectors[:1]
	others[3].Sectors = disk(3).Sectors
	others[4].Sectors = slices.Clone(d.Sectors)
	others[4].Sectors[1][63] = 99
	others[5].Loose = d.Loose[:1]
	others[6].Loose = []api.Write{write(1, 6), write(0, 5)}
	others[7].Loose = []api.Write{write(0, 5), write(0, 6)}
	others[8].Loose = slices.Clone(d.Loose)
	others[8].Loose[0].Data[63] = 99
	for i, o := range others {
		if sector.Same(d, o) || sector.Same(o, d) {
			t.Error(i, "isn't the same")
		}
	}
	if !sector.Same(d, deep(d)) || !sector.Same(api.Disk{}, api.Disk{Sectors: [][api.Sector]byte{}, Loose: []api.Write{}}) {
		t.Error("is the same")
	}
	for name, w := range wrong() {
		if !sector.Same(w, deep(w)) || sector.Same(w, d) {
			t.Error(name)
		}
	}
}

// P1.1: what is handed in stays as it was, its spare room too, and what was answered stays so whatever comes behind.
func TestNothingChanges(t *testing.T) {
	sectors := make([][api.Sector]byte, 3, 9)
	loose := append(make([]api.Write, 0, 9), write(0, 5), write(1, 6))
	d := api.Disk{Sectors: sectors, Loose: loose, Fuse: 9}
	wantSectors, wantLoose := slices.Clone(sectors[:9]), slices.Clone(loose[:9])
	one, _ := sector.Put(d, 2, fill(11))
	two, _ := sector.Put(d, 2, fill(12))
	three, _ := sector.Put(one, 0, fill(13))
	four, _ := sector.Put(one, 0, fill(14))
	flushed, _ := sector.Flush(three)
	started, _ := sector.Start(four, 8)
	armed, _ := sector.Arm(d, 0)
	sector.Flush(armed)
	sector.Read(one, 2)
	if !slices.Equal(sectors[:9], wantSectors) || !slices.Equal(loose[:9], wantLoose) || d.Fuse != 9 || d.Down || armed.Down {
		t.Error("what was handed in is another one")
	}
	for i, x := range []struct {
		d    api.Disk
		want []byte
	}{{one, []byte{5, 6, 11}}, {two, []byte{5, 6, 12}}, {three, []byte{13, 6, 11}}, {four, []byte{14, 6, 11}}, {flushed, []byte{13, 6, 11}}, {started, []byte{14, 0, 0}}} {
		for at, b := range x.want {
			if got, e := sector.Read(x.d, at); e != api.OK || got != fill(b) {
				t.Error(i, at, got[0], e)
			}
		}
	}
}

// chance: numbers that are the same in each run.
type chance uint64

func (c *chance) below(n int) int {
	*c = *c*6364136223846793005 + 1442695040888963407
	return int((uint64(*c) >> 33) % uint64(n))
}

func (c *chance) mask() uint64 {
	return uint64(c.below(1<<31)) | uint64(c.below(1<<31))<<31 | uint64(c.below(4))<<62
}

// P1.2: the example of the chapter.
func TestSureExample(t *testing.T) {
	d := disk(4)
	d, _ = sector.Put(d, 3, fill(21))
	d, _ = sector.Flush(d)
	d, _ = sector.Put(d, 3, fill(22))
	d, e := sector.Start(d, 0)
	want := disk(4)
	want.Sectors[3] = fill(21)
	expect(t, "start", d, e, want, api.OK)
}

// P1.2: wherever the power goes in a script of puts and flushes, each sector has what it had at the last flush that was done, or what a put behind that one put there.
func TestSure(t *testing.T) {
	c := chance(1)
	for fuse := range 60 {
		for range 20 {
			d, _ := sector.Arm(disk(5), fuse)
			may := make([][]byte, 5)
			for i := range may {
				may[i] = []byte{byte(i)}
			}
			for x := byte(10); !d.Down; x++ {
				if int(x) > 10+fuse {
					t.Fatal(fuse, "the power doesn't go")
				}
				var e api.Errno
				if c.below(8) > 0 {
					at := c.below(5)
					if d, e = sector.Put(d, at, fill(x)); e == api.OK {
						may[at] = append(may[at], x)
					}
				} else if d, e = sector.Flush(d); e == api.OK {
					for i := range may {
						may[i] = may[i][len(may[i])-1:]
					}
				}
			}
			for _, mask := range []uint64{0, math.MaxUint64, c.mask(), c.mask()} {
				s, e := sector.Start(d, mask)
				if e != api.OK {
					t.Fatal(e)
				}
				for at, l := range may {
					if x := s.Sectors[at]; x != fill(x[0]) || !slices.Contains(l, x[0]) {
						t.Fatal(fuse, mask, at, x, l)
					}
				}
			}
		}
	}
}

// P1.1 and P1.2: scripts of all deeds, held against a disk that does each write in order.
func TestScripts(t *testing.T) {
	c := chance(2)
	for range 200 {
		n := 1 + c.below(6)
		d, want := disk(n), disk(n)
		for step := range 100 {
			var e, wantErr api.Errno
			switch k := c.below(12); {
			case k < 8:
				at, x := c.below(n), byte(step)
				d, e = sector.Put(d, at, fill(x))
				if want, wantErr = plainDeed(want); wantErr == api.OK {
					want.Loose = append(want.Loose, write(at, x))
				}
			case k == 8:
				d, e = sector.Flush(d)
				if want, wantErr = plainDeed(want); wantErr == api.OK {
					want = plainDo(want, math.MaxUint64)
				}
			case k == 9:
				fuse := c.below(20) - 1
				d, e = sector.Arm(d, fuse)
				want.Fuse = fuse
			case k == 10:
				at := c.below(n)
				x, e := sector.Read(d, at)
				if y, wantErr := plainRead(want, at); x != y || e != wantErr {
					t.Fatal(at, x[0], y[0], e, wantErr)
				}
			default:
				mask := c.mask()
				d, e = sector.Start(d, mask)
				want = plainDo(want, mask)
				want.Fuse, want.Down = -1, false
			}
			expect(t, "script", d, e, want, wantErr)
		}
	}
}

func plainDeed(d api.Disk) (api.Disk, api.Errno) {
	if d.Down || d.Fuse == 0 {
		d.Down = true
		return d, api.ErrDown
	}
	d.Fuse = max(d.Fuse-1, -1)
	return d, api.OK
}

func plainDo(d api.Disk, mask uint64) api.Disk {
	d = deep(d)
	for i, w := range d.Loose {
		if mask&(1<<(i%64)) != 0 {
			d.Sectors[w.At] = w.Data
		}
	}
	d.Loose = nil
	return d
}

func plainRead(d api.Disk, at int) ([api.Sector]byte, api.Errno) {
	if d.Down {
		return [api.Sector]byte{}, api.ErrDown
	}
	return plainDo(d, math.MaxUint64).Sectors[at], api.OK
}
