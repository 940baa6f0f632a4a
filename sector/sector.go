// Package sector is layer 1: a disk of sectors, whose writes aren't sure ahead of a flush, and what falls leave. See shared/doc/01-sector.md.
package sector

import (
	"iter"
	"slices"

	"escheat/api"
)

const (
	maxLoose = 100_000
	noFuse   = -1
	maxFuse  = 1 << 40
)

// New: a disk of so many sectors, all bytes 0, that no fall is set for.
func New(sectors int) (api.Disk, api.Errno) {
	if sectors < 0 || sectors > api.MaxSectors {
		return api.Disk{}, api.ErrArg
	}
	return api.Disk{Sectors: make([][api.Sector]byte, sectors), Fuse: noFuse}, api.OK
}

// Right: may a disk be?
func Right(d api.Disk) bool {
	if len(d.Sectors) > api.MaxSectors || len(d.Loose) > maxLoose || !fuseMayBe(d.Fuse) {
		return false
	}
	for i := range d.Loose {
		if !isThere(d, d.Loose[i].At) {
			return false
		}
	}
	return true
}

// Read: a sector, as the loose writes leave it.
func Read(d api.Disk, at int) ([api.Sector]byte, api.Errno) {
	if !Right(d) || !isThere(d, at) {
		return [api.Sector]byte{}, api.ErrArg
	}
	if d.Down {
		return [api.Sector]byte{}, api.ErrDown
	}
	for w := range fromLast(d.Loose, every) {
		if w.At == at {
			return w.Data, api.OK
		}
	}
	return d.Sectors[at], api.OK
}

// Put: one loose write more.
func Put(d api.Disk, at int, data [api.Sector]byte) (api.Disk, api.Errno) {
	if !Right(d) || !isThere(d, at) {
		return d, api.ErrArg
	}
	d, e := deed(d)
	if e != api.OK {
		return d, e
	}
	// A list of its own: the spare room of the old one may be another disk's.
	loose := make([]api.Write, len(d.Loose)+1)
	copy(loose, d.Loose)
	loose[len(d.Loose)] = api.Write{At: at, Data: data}
	d.Loose = loose
	return d, api.OK
}

// Flush: all loose writes are sure.
func Flush(d api.Disk) (api.Disk, api.Errno) {
	if !Right(d) {
		return d, api.ErrArg
	}
	d, e := deed(d)
	if e != api.OK {
		return d, e
	}
	d.Sectors = settled(d, every)
	d.Loose = nil
	return d, api.OK
}

// Start: the disk behind a fall that left those loose writes whose bits are 1 in mask, which repeats behind 64 of them.
func Start(d api.Disk, mask uint64) (api.Disk, api.Errno) {
	if !Right(d) {
		return d, api.ErrArg
	}
	stays := func(i int) bool { return mask>>(uint(i)%64)&1 == 1 }
	return api.Disk{Sectors: settled(d, stays), Fuse: noFuse}, api.OK
}

// Arm: the disk falls behind so many deeds (below 0: it doesn't).
func Arm(d api.Disk, fuse int) (api.Disk, api.Errno) {
	if !Right(d) || !fuseMayBe(fuse) {
		return d, api.ErrArg
	}
	d.Fuse = fuse
	return d, api.OK
}

// Same: are two disks the same, field by field?
func Same(a, b api.Disk) bool {
	return a.Fuse == b.Fuse && a.Down == b.Down && slices.Equal(a.Sectors, b.Sectors) && slices.Equal(a.Loose, b.Loose)
}

func fuseMayBe(fuse int) bool {
	return fuse >= noFuse && fuse <= maxFuse
}

func isThere(d api.Disk, at int) bool {
	return at >= 0 && at < len(d.Sectors)
}

// deed: the disk behind one deed more, or, beside ErrDown, the one that has fallen.
func deed(d api.Disk) (api.Disk, api.Errno) {
	if d.Down {
		return d, api.ErrDown
	}
	if d.Fuse == 0 {
		d.Down = true
		return d, api.ErrDown
	}
	if d.Fuse > 0 {
		d.Fuse--
	}
	return d, api.OK
}

// every: none of the loose writes is lost.
func every(int) bool { return true }

// fromLast: the writes that stay, the last one first; stays is asked by their places.
func fromLast(loose []api.Write, stays func(i int) bool) iter.Seq[api.Write] {
	return func(yield func(api.Write) bool) {
		for i := len(loose) - 1; i >= 0; i-- {
			if stays(i) && !yield(loose[i]) {
				return
			}
		}
	}
}

// settled: new sectors, with those loose writes done that stay.
func settled(d api.Disk, stays func(i int) bool) [][api.Sector]byte {
	sectors := slices.Clone(d.Sectors)
	written := make([]bool, len(sectors))
	for w := range fromLast(d.Loose, stays) {
		// The last write of a sector is met first: those ahead of it leave nothing.
		if !written[w.At] {
			written[w.At] = true
			sectors[w.At] = w.Data
		}
	}
	return sectors
}
