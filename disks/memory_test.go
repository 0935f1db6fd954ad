package disks_test

import (
	"bytes"
	"math"
	"slices"
	"sync"
	"testing"

	"almoner/api"
	"almoner/disks"
)

// R3: a disk that is not there, and one that no call made: ErrNil ahead of each other error, noughts else, and it stays so.
func TestNoDisk(t *testing.T) {
	for name, d := range map[string]*disks.Disk{"nil": nil, "zero": {}, "new": new(disks.Disk)} {
		for range 2 {
			for _, n := range []int{math.MinInt, -1, 0, 1, 4096, math.MaxInt} {
				answers(t, name+": Fuse", d.Fuse(n), api.ErrNil)
				answers(t, name+": Write", d.Write(n, nil), api.ErrNil)
				answers(t, name+": Write", d.Write(n, text(1, 65)), api.ErrNil)
				answers(t, name+": Turn", d.Turn(n, 0, 1), api.ErrNil)
				answers(t, name+": Turn", d.Turn(0, n, 1), api.ErrNil)
				answers(t, name+": Sync", d.Sync(), api.ErrNil)
				if b, e := d.Read(n); b != nil || e != api.ErrNil {
					t.Errorf("%s: Read(%d) = %v, %d", name, n, b, e)
				}
				if left, e := d.Fail(keptOf(7, n&3)); left != nil || e != api.ErrNil {
					t.Errorf("%s: Fail = %v, %d", name, left, e)
				}
				is(t, d, 0, 0, false)
			}
		}
	}
}

// R4: what is written is not changed, its spare room neither, and that is no part of it.
func TestWrittenStays(t *testing.T) {
	for _, size := range []int{0, 1, 10, 63, 64, 65} {
		all := text(9, 200)
		b := all[:size]
		d := made(t, 2)
		d.Write(0, b)
		d.Write(1, b)
		d.Sync()
		d.Turn(0, 0, 255)
		d.Write(0, b)
		if !bytes.Equal(all, text(9, 200)) {
			t.Errorf("of %d bytes: what was written is another one", size)
		}
		if size <= 64 {
			reads(t, d, 0, b)
			reads(t, d, 1, b)
		}
	}
}

// R4: what is written is kept by its content: whatever becomes of that memory later, a write that waits, or is sure, is as it was.
func TestWrittenByContent(t *testing.T) {
	for _, sure := range []bool{false, true} {
		d := made(t, 3)
		b := text(0, 64)
		for n := range 3 {
			copy(b, text(byte(n), 64))
			answers(t, "Write", d.Write(n, b), api.OK)
			clear(b)
			if sure {
				answers(t, "Sync", d.Sync(), api.OK)
			}
		}
		left := failed(t, d, true, true, true)
		for n := range 3 {
			reads(t, d, n, text(byte(n), 64))
			reads(t, left, n, text(byte(n), 64))
		}
	}
}

// R4: what is read is memory of its own, its spare room too: writing into it changes neither the disk, nor what is left of it, nor another answer.
func TestReadIsNew(t *testing.T) {
	d := made(t, 3)
	for n := range 3 {
		answers(t, "Write", d.Write(n, text(byte(n), 64)), api.OK)
		if n == 0 {
			answers(t, "Sync", d.Sync(), api.OK)
		}
	}
	left := failed(t, d, true, true)
	for n := range 3 {
		for _, x := range []*disks.Disk{d, left} {
			first, _ := x.Read(n)
			second, _ := x.Read(n)
			first = first[:cap(first)]
			for i := range first {
				first[i] ^= 0x5a
			}
			if !bytes.Equal(second, text(byte(n), 64)) {
				t.Fatalf("of sector %d: another answer has changed", n)
			}
		}
		for other := range 3 {
			reads(t, d, other, text(byte(other), 64))
			reads(t, left, other, text(byte(other), 64))
			reads(t, failed(t, d, true, true), other, text(byte(other), 64))
		}
	}
	is(t, d, 3, 2, false)
}

// R4: an answer stays, whatever becomes of the disk.
func TestReadStays(t *testing.T) {
	d := made(t, 1)
	var got [][]byte
	for i := range 40 {
		answers(t, "Write", d.Write(0, text(byte(i), 64)), api.OK)
		b, _ := d.Read(0)
		got = append(got, b)
		switch i % 3 {
		case 0:
			answers(t, "Sync", d.Sync(), api.OK)
		case 1:
			answers(t, "Turn", d.Turn(0, i, 255), api.OK)
		}
	}
	for i, b := range got {
		if !bytes.Equal(b, text(byte(i), 64)) {
			t.Errorf("what was read behind write %d is another one", i)
		}
	}
}

// R4: what is read may be written again, to another sector and to the same one.
func TestReadIsWritten(t *testing.T) {
	d := made(t, 2)
	answers(t, "Write", d.Write(0, text(1, 64)), api.OK)
	b, _ := d.Read(0)
	answers(t, "Write", d.Write(1, b), api.OK)
	answers(t, "Write", d.Write(0, b[7:]), api.OK)
	reads(t, d, 0, text(1, 64)[7:])
	reads(t, d, 1, text(1, 64))
}

// R4: the list of what is kept is not changed, nor kept itself; its spare room is no part of it.
func TestKeptStays(t *testing.T) {
	d := waiting(t)
	all := []bool{false, true, true, true, true, true, true}
	for n := range len(all) {
		kept := all[:n]
		left := failed(t, d, kept...)
		isLeft(t, left, slices.Clone(kept))
		if !slices.Equal(all, []bool{false, true, true, true, true, true, true}) {
			t.Fatal("what was handed in is another one")
		}
	}
	kept := []bool{true, true, true, true, true}
	left := failed(t, d, kept...)
	clear(kept)
	isLeft(t, left, []bool{true, true, true, true, true})
}

// R5: two disks do not know of one another.
func TestTwoDisks(t *testing.T) {
	first, second := waiting(t), waiting(t)
	answers(t, "Write", first.Write(0, text(77, 64)), api.OK)
	isWaiting(t, second)
	answers(t, "Sync", first.Sync(), api.OK)
	isWaiting(t, second)
	answers(t, "Turn", first.Turn(1, 1, 1), api.OK)
	isWaiting(t, second)
	answers(t, "Fuse(0)", first.Fuse(0), api.OK)
	answers(t, "Sync", first.Sync(), api.ErrState)
	isWaiting(t, second)
	isWaiting(t, waiting(t))
	isBurnt(t, second, -1)
	is(t, first, 3, 0, true)
}

// R5: a disk, and what was left of it, do not know of one another; nor do two that were left.
func TestDiskAndWhatWasLeft(t *testing.T) {
	d := waiting(t)
	kept := []bool{true, false, true, true, true}
	left, other := failed(t, d, kept...), failed(t, d, kept...)
	for n := range 3 {
		answers(t, "of what is left: Write", left.Write(n, text(99, 64)), api.OK)
	}
	isWaiting(t, d)
	isLeft(t, other, kept)
	answers(t, "of what is left: Turn", left.Turn(2, 5, 5), api.OK)
	answers(t, "of what is left: Fuse(0)", left.Fuse(0), api.OK)
	answers(t, "of what is left: Sync", left.Sync(), api.ErrState)
	isWaiting(t, d)
	isLeft(t, other, kept)
	for n := range 3 {
		answers(t, "Write", d.Write(n, text(88, 64)), api.OK)
	}
	answers(t, "Turn", d.Turn(0, 0, 1), api.OK)
	answers(t, "Fuse(0)", d.Fuse(0), api.OK)
	answers(t, "Sync", d.Sync(), api.ErrState)
	isLeft(t, other, kept)
	reads(t, left, 0, text(99, 64))
	is(t, left, 3, 0, true)
	is(t, other, 3, 0, false)
}

// R5: disks that are used at the same time are as those that are used one by one.
func TestAtTheSameTime(t *testing.T) {
	var got [8]*disks.Disk
	var group sync.WaitGroup
	for i := range got {
		group.Go(func() {
			d, _ := disks.New(5)
			for k := range 500 {
				d.Write(k%5, text(byte(i+k), 64))
				if k%7 == 0 {
					d.Sync()
				}
			}
			got[i], _ = d.Fail(nil)
		})
	}
	group.Wait()
	for i, d := range got {
		is(t, d, 5, 0, false)
		for n := range 5 {
			// The last one that was made sure is 497.
			reads(t, d, n, text(byte(i+497-(497-n)%5), 64))
		}
	}
}
