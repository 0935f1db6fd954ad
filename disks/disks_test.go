package disks_test

import (
	"bytes"
	"math"
	"slices"
	"testing"

	"almoner/api"
	"almoner/disks"
)

// noSectors are numbers of which a disk of n sectors has none.
func noSectors(n int) []int { return []int{math.MinInt, -n, -2, -1, n, n + 1, 2 * n, math.MaxInt} }

// text is so many bytes, none of them a nought, unlike those of another first one.
func text(first byte, n int) []byte {
	b := make([]byte, n)
	for i := range b {
		b[i] = first | 1
		first += 26
	}
	return b
}

// filled is b with noughts behind it, as many as make a sector.
func filled(b []byte) []byte { return append(slices.Clone(b), make([]byte, 64-len(b))...) }

// made is a disk of so many sectors.
func made(t *testing.T, n int) *disks.Disk {
	t.Helper()
	d, e := disks.New(n)
	if e != api.OK || d == nil {
		t.Fatalf("New(%d) = %v, %d", n, d, e)
	}
	return d
}

// failed is what is left of d.
func failed(t *testing.T, d *disks.Disk, kept ...bool) *disks.Disk {
	t.Helper()
	left, e := d.Fail(kept)
	if e != api.OK || left == nil || left == d {
		t.Fatalf("Fail(%v) = %v, %d", kept, left, e)
	}
	return left
}

// answers fails the test if an error isn't the wanted one.
func answers(t *testing.T, call string, got, want api.Errno) {
	t.Helper()
	if got != want {
		t.Fatalf("%s = %d, not %d", call, got, want)
	}
}

// reads fails the test if what is read of a sector isn't b, with noughts behind.
func reads(t *testing.T, d *disks.Disk, n int, b []byte) {
	t.Helper()
	if got, e := d.Read(n); e != api.OK || !bytes.Equal(got, filled(b)) {
		t.Fatalf("Read(%d) = %v, %d; not %v", n, got, e, filled(b))
	}
}

// is fails the test if d hasn't so many sectors, or as many writes that wait, or is blown, or isn't, otherwise.
func is(t *testing.T, d *disks.Disk, sectors, waits int, blown bool) {
	t.Helper()
	if d.Len() != sectors || d.Waits() != waits || d.Blown() != blown {
		t.Fatalf("Len, Waits, Blown = %d, %d, %t; not %d, %d, %t", d.Len(), d.Waits(), d.Blown(), sectors, waits, blown)
	}
}

// The document's examples.
func TestTold(t *testing.T) {
	a := []byte("a")
	d := made(t, 2)
	answers(t, "Write(0, a)", d.Write(0, a), api.OK)
	reads(t, d, 0, a)
	is(t, d, 2, 1, false)
	answers(t, "Write(2, a)", d.Write(2, a), api.ErrArg)
	answers(t, "Write(0, 65 bytes)", d.Write(0, text(1, 65)), api.ErrArg)
	reads(t, failed(t, d), 0, nil)
	reads(t, failed(t, d, true), 0, a)
	answers(t, "Sync", d.Sync(), api.OK)
	is(t, d, 2, 0, false)
	reads(t, failed(t, d), 0, a)
	answers(t, "Turn(0, 0, 3)", d.Turn(0, 0, 3), api.OK)
	reads(t, d, 0, []byte("b"))
	answers(t, "Fuse(0)", d.Fuse(0), api.OK)
	answers(t, "Sync", d.Sync(), api.ErrState)
	is(t, d, 2, 0, true)
	answers(t, "Turn(0, 0, 3)", d.Turn(0, 0, 3), api.ErrState)
	answers(t, "Fuse(-1)", d.Fuse(-1), api.OK)
	answers(t, "Sync", d.Sync(), api.OK)
}

// P5.1: as many sectors as there may be, and more, and fewer.
func TestNewWrong(t *testing.T) {
	for _, n := range []int{math.MinInt, -4096, -2, -1, 0, 4097, 4098, 1 << 40, math.MaxInt} {
		if d, e := disks.New(n); d != nil || e != api.ErrArg {
			t.Errorf("New(%d) = %v, %d", n, d, e)
		}
	}
}

// P5.1: all is noughts, and sure; there is no sector more.
func TestNew(t *testing.T) {
	for _, n := range []int{1, 2, 3, 64, 4095, 4096} {
		d := made(t, n)
		is(t, d, n, 0, false)
		for i := range n {
			reads(t, d, i, nil)
			reads(t, d, n-1-i, nil)
		}
		left := failed(t, d)
		is(t, left, n, 0, false)
		reads(t, left, 0, nil)
		reads(t, left, n-1, nil)
	}
}

// P5.1: the fuse of a new disk lets all be.
func TestNewFuse(t *testing.T) {
	d := made(t, 2)
	for range 10000 {
		answers(t, "Write(1, none)", d.Write(1, nil), api.OK)
		answers(t, "Sync", d.Sync(), api.OK)
	}
	is(t, d, 2, 0, false)
}

// P5.2: bytes of each length that may be, in the first sector, the last one, and between, with noughts behind, whatever stood there ahead.
func TestWrite(t *testing.T) {
	for _, sectors := range []int{1, 2, 5} {
		for n := range sectors {
			d := made(t, sectors)
			for size := range 65 {
				for i, b := range [][]byte{text(9, size), text(77, 64-size)} {
					answers(t, "Write", d.Write(n, b), api.OK)
					reads(t, d, n, b)
					is(t, d, sectors, 2*size+i+1, false)
				}
			}
			for other := range sectors {
				if other != n {
					reads(t, d, other, nil)
				}
			}
		}
	}
}

// P5.2: each byte of a sector is one of its own, whatever it is.
func TestWriteBytes(t *testing.T) {
	d := made(t, 3)
	for by := range 256 {
		for at := range 64 {
			b := text(byte(by), 64)
			b[at] = byte(by)
			answers(t, "Write", d.Write(at%3, b), api.OK)
			reads(t, d, at%3, b)
		}
		answers(t, "Sync", d.Sync(), api.OK)
		is(t, d, 3, 0, false)
	}
}

// P5.2: no bytes, however they are told, make a sector of noughts, and wait.
func TestWriteNone(t *testing.T) {
	for _, none := range [][]byte{nil, {}, text(5, 64)[:0]} {
		d := made(t, 1)
		answers(t, "Write(0, 64 bytes)", d.Write(0, text(1, 64)), api.OK)
		answers(t, "Sync", d.Sync(), api.OK)
		answers(t, "Write(0, none)", d.Write(0, none), api.OK)
		is(t, d, 1, 1, false)
		reads(t, d, 0, nil)
		reads(t, failed(t, d), 0, text(1, 64))
		reads(t, failed(t, d, true), 0, nil)
	}
}

// P5.2: each sector of a disk is one of its own, whether what was written waits or not.
func TestWriteEachSector(t *testing.T) {
	for _, sectors := range []int{1, 7, 4096} {
		d := made(t, sectors)
		for n := range sectors {
			answers(t, "Write", d.Write(n, text(byte(n), n%65)), api.OK)
		}
		is(t, d, sectors, sectors, false)
		for range 2 {
			for n := range sectors {
				reads(t, d, n, text(byte(n), n%65))
			}
			answers(t, "Sync", d.Sync(), api.OK)
		}
	}
}

// P5.2: several writes to one sector wait, each of them; the last one is read.
func TestWriteAgain(t *testing.T) {
	d := made(t, 2)
	for i := range 100 {
		answers(t, "Write", d.Write(1, text(byte(i), 64-i%65)), api.OK)
		reads(t, d, 1, text(byte(i), 64-i%65))
		reads(t, d, 0, nil)
		is(t, d, 2, i+1, false)
	}
	answers(t, "Sync", d.Sync(), api.OK)
	reads(t, d, 1, text(99, 30))
	reads(t, failed(t, d), 1, text(99, 30))
}

// P5.2: a sector that there is not, more bytes than it has: nothing is written, and the fuse is as it was.
func TestWriteWrong(t *testing.T) {
	for _, sectors := range []int{1, 3, 4096} {
		d := made(t, sectors)
		answers(t, "Write", d.Write(0, text(3, 5)), api.OK)
		answers(t, "Fuse(1)", d.Fuse(1), api.OK)
		for _, n := range noSectors(sectors) {
			for _, size := range []int{0, 1, 64, 65} {
				answers(t, "Write of no sector", d.Write(n, text(1, size)), api.ErrArg)
			}
		}
		for _, size := range []int{65, 66, 128, 1 << 20} {
			answers(t, "Write of too much", d.Write(0, text(1, size)), api.ErrArg)
			answers(t, "Write of too much", d.Write(sectors-1, text(1, size)), api.ErrArg)
		}
		is(t, d, sectors, 1, false)
		reads(t, d, 0, text(3, 5))
		answers(t, "Sync", d.Sync(), api.OK)
		answers(t, "Sync", d.Sync(), api.ErrState)
	}
}

// P5.2: ErrArg goes ahead of ErrState, and does not blow the fuse.
func TestWriteWrongAheadOfFuse(t *testing.T) {
	d := made(t, 2)
	answers(t, "Fuse(0)", d.Fuse(0), api.OK)
	for _, blown := range []bool{false, true} {
		answers(t, "Write of no sector", d.Write(2, nil), api.ErrArg)
		answers(t, "Write of no sector", d.Write(-1, nil), api.ErrArg)
		answers(t, "Write of too much", d.Write(0, text(1, 65)), api.ErrArg)
		is(t, d, 2, 0, blown)
		answers(t, "Write", d.Write(0, nil), api.ErrState)
		is(t, d, 2, 0, true)
	}
}

// P5.2: of a sector that there is not nothing is read.
func TestReadWrong(t *testing.T) {
	for _, sectors := range []int{1, 3, 4096} {
		d := made(t, sectors)
		for _, n := range noSectors(sectors) {
			if got, e := d.Read(n); got != nil || e != api.ErrArg {
				t.Errorf("of %d sectors: Read(%d) = %v, %d", sectors, n, got, e)
			}
		}
	}
}

// P5.2, P5.3: behind a fuse that lets none be nothing is written, and nothing made sure, but all is read as ahead of it.
func TestNotLetBe(t *testing.T) {
	for _, first := range []string{"Write", "Sync"} {
		d := made(t, 2)
		answers(t, "Write", d.Write(0, text(1, 10)), api.OK)
		answers(t, "Fuse(0)", d.Fuse(0), api.OK)
		is(t, d, 2, 1, false)
		if first == "Sync" {
			answers(t, "Sync", d.Sync(), api.ErrState)
			is(t, d, 2, 1, true)
		}
		for range 3 {
			answers(t, "Write", d.Write(0, text(2, 64)), api.ErrState)
			answers(t, "Write", d.Write(1, text(2, 64)), api.ErrState)
			answers(t, "Sync", d.Sync(), api.ErrState)
			is(t, d, 2, 1, true)
			reads(t, d, 0, text(1, 10))
			reads(t, d, 1, nil)
			reads(t, failed(t, d), 0, nil)
		}
	}
}

// P5.3: all that waits is sure, nothing waits, whether anything did ahead of it or not.
func TestSync(t *testing.T) {
	d := made(t, 3)
	answers(t, "Sync", d.Sync(), api.OK)
	is(t, d, 3, 0, false)
	for i := range 20 {
		for n := range 3 {
			answers(t, "Write", d.Write(n, text(byte(i+n), 64)), api.OK)
			answers(t, "Write", d.Write(n, text(byte(i+n), i)), api.OK)
			is(t, d, 3, 2*n+2, false)
		}
		for range 2 {
			answers(t, "Sync", d.Sync(), api.OK)
			is(t, d, 3, 0, false)
			left := failed(t, d)
			for n := range 3 {
				reads(t, d, n, text(byte(i+n), i))
				reads(t, left, n, text(byte(i+n), i))
			}
		}
	}
}

// P5.3: of writes to one sector the last one is sure, not the longest, nor the first one.
func TestSyncInOrder(t *testing.T) {
	d := made(t, 1)
	for _, size := range []int{64, 3, 40, 0, 7} {
		answers(t, "Write", d.Write(0, text(byte(size), size)), api.OK)
	}
	answers(t, "Sync", d.Sync(), api.OK)
	reads(t, d, 0, text(7, 7))
	reads(t, failed(t, d), 0, text(7, 7))
}
