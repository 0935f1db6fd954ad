package disks_test

import (
	"math"
	"testing"

	"almoner/api"
	"almoner/disks"
)

// waiting is a disk of three sectors, of which the first one and the last one are sure to be of 64 bytes, and on which five writes wait: for the last sector, the first, the last, the first, the one between.
func waiting(t *testing.T) *disks.Disk {
	t.Helper()
	d := made(t, 3)
	answers(t, "Write", d.Write(0, text(100, 64)), api.OK)
	answers(t, "Write", d.Write(2, text(102, 64)), api.OK)
	answers(t, "Sync", d.Sync(), api.OK)
	for i, n := range []int{2, 0, 2, 0, 1} {
		answers(t, "Write", d.Write(n, text(byte(10*i), 60-10*i)), api.OK)
	}
	return d
}

// isWaiting fails the test if d isn't as waiting made it.
func isWaiting(t *testing.T, d *disks.Disk) {
	t.Helper()
	is(t, d, 3, 5, false)
	reads(t, d, 0, text(30, 30))
	reads(t, d, 1, text(40, 20))
	reads(t, d, 2, text(20, 40))
	isLeft(t, failed(t, d), nil)
}

// isLeft fails the test if d isn't what is left of what waiting made, and of the writes there those that are kept.
func isLeft(t *testing.T, d *disks.Disk, kept []bool) {
	t.Helper()
	want := [3][]byte{text(100, 64), nil, text(102, 64)}
	for i, n := range []int{2, 0, 2, 0, 1} {
		if i < len(kept) && kept[i] {
			want[n] = text(byte(10*i), 60-10*i)
		}
	}
	is(t, d, 3, 0, false)
	for n, b := range want {
		reads(t, d, n, b)
		reads(t, failed(t, d), n, b)
	}
}

// keptOf is so many, told by the bits of a number.
func keptOf(bits, n int) []bool {
	kept := make([]bool, n)
	for i := range kept {
		kept[i] = bits>>i&1 == 1
	}
	return kept
}

// P5.4: whichever writes are kept, of none, of fewer than wait, of as many, of more; the disk is as it was, and each time another one is left.
func TestFail(t *testing.T) {
	d := waiting(t)
	for n := range 9 {
		for bits := range 1 << n {
			kept := keptOf(bits, n)
			isLeft(t, failed(t, d, kept...), kept)
		}
	}
	isWaiting(t, d)
	long := make([]bool, 100000)
	isLeft(t, failed(t, d, long...), nil)
	for i := range long {
		long[i] = true
	}
	isLeft(t, failed(t, d, long...), long)
	isWaiting(t, d)
}

// P5.4: places are those among the writes that wait, not those that did once.
func TestFailPlaces(t *testing.T) {
	d := made(t, 2)
	for range 3 {
		answers(t, "Write", d.Write(0, text(1, 9)), api.OK)
	}
	answers(t, "Sync", d.Sync(), api.OK)
	answers(t, "Write", d.Write(0, text(2, 8)), api.OK)
	answers(t, "Write", d.Write(1, text(3, 7)), api.OK)
	reads(t, failed(t, d, true), 0, text(2, 8))
	reads(t, failed(t, d, true), 1, nil)
	reads(t, failed(t, d, false, true), 0, text(1, 9))
	reads(t, failed(t, d, false, true), 1, text(3, 7))
	reads(t, failed(t, d, false, false, true, true), 0, text(1, 9))
}

// P5.4: of nothing that waits nothing is kept.
func TestFailOfNothing(t *testing.T) {
	for _, sectors := range []int{1, 4096} {
		d := made(t, sectors)
		left := failed(t, d, true, true, true)
		is(t, left, sectors, 0, false)
		reads(t, left, 0, nil)
		reads(t, left, sectors-1, nil)
	}
}

// P5.4: the fuse of what is left lets all be, whatever that of the disk does; and the disk's is as it was.
func TestFailFuse(t *testing.T) {
	for _, fuse := range []int{-1, 0, 1, 2} {
		for _, blown := range []bool{false, true} {
			d := waiting(t)
			if blown {
				answers(t, "Fuse(0)", d.Fuse(0), api.OK)
				answers(t, "Sync", d.Sync(), api.ErrState)
			} else {
				answers(t, "Fuse", d.Fuse(fuse), api.OK)
			}
			left := failed(t, d, true)
			is(t, d, 3, 5, blown)
			is(t, left, 3, 0, false)
			for range 100 {
				answers(t, "of what is left: Sync", left.Sync(), api.OK)
				answers(t, "of what is left: Write", left.Write(0, nil), api.OK)
			}
			is(t, d, 3, 5, blown)
			if blown {
				fuse = 0
			}
			isBurnt(t, d, fuse)
		}
	}
}

// isBurnt fails the test if d doesn't let just so many calls be; below 0, all.
func isBurnt(t *testing.T, d *disks.Disk, calls int) {
	t.Helper()
	if calls < 0 {
		for range 100 {
			answers(t, "Sync", d.Sync(), api.OK)
		}
		return
	}
	for range calls {
		answers(t, "Sync", d.Sync(), api.OK)
		is(t, d, d.Len(), 0, false)
	}
	for range 3 {
		answers(t, "Sync", d.Sync(), api.ErrState)
		is(t, d, d.Len(), d.Waits(), true)
	}
}

// P5.5: whichever byte of whichever sector becomes another one, and no other byte does; it is so surely.
func TestTurn(t *testing.T) {
	for _, sectors := range []int{1, 3} {
		for n := range sectors {
			for at := range 64 {
				d := made(t, sectors)
				b := text(byte(n), 50)
				answers(t, "Write", d.Write(n, b), api.OK)
				answers(t, "Sync", d.Sync(), api.OK)
				answers(t, "Turn", d.Turn(n, at, byte(at*5+1)), api.OK)
				want := filled(b)
				want[at] ^= byte(at*5 + 1)
				for _, x := range []*disks.Disk{d, failed(t, d), failed(t, d, true)} {
					is(t, x, sectors, 0, false)
					for other := range sectors {
						if other == n {
							reads(t, x, n, want)
						} else {
							reads(t, x, other, nil)
						}
					}
				}
			}
		}
	}
}

// P5.5: against each byte, from each one.
func TestTurnEachByte(t *testing.T) {
	d := made(t, 1)
	for from := range 256 {
		for by := range 256 {
			answers(t, "Write", d.Write(0, []byte{7, byte(from)}), api.OK)
			answers(t, "Turn", d.Turn(0, 1, byte(by)), api.OK)
			reads(t, d, 0, []byte{7, byte(from ^ by)})
		}
	}
}

// P5.5: turned twice by the same, a byte is as it was.
func TestTurnTwice(t *testing.T) {
	d := made(t, 2)
	answers(t, "Write", d.Write(1, text(9, 64)), api.OK)
	for by := range 256 {
		answers(t, "Turn", d.Turn(1, 63, byte(by)), api.OK)
		answers(t, "Turn", d.Turn(1, 63, byte(by)), api.OK)
		reads(t, d, 1, text(9, 64))
	}
}

// P5.5: while writes wait: all of them become sure, in order, and the byte is turned as it is read; against 0, too.
func TestTurnWhileWaiting(t *testing.T) {
	for _, by := range []byte{0, 1, 255} {
		for n, want := range [3][]byte{text(30, 30), text(40, 20), text(20, 40)} {
			d := waiting(t)
			answers(t, "Turn", d.Turn(n, 3, by), api.OK)
			want[3] ^= by
			for _, x := range []*disks.Disk{d, failed(t, d), failed(t, d, true, true, true, true, true)} {
				is(t, x, 3, 0, false)
				reads(t, x, n, want)
			}
			if n != 1 {
				reads(t, failed(t, d), 1, text(40, 20))
			}
		}
	}
}

// P5.5: a sector, or a byte, that there is not: nothing becomes sure, nothing is turned; so, too, if the fuse is blown.
func TestTurnWrong(t *testing.T) {
	d := waiting(t)
	wrong := func() {
		t.Helper()
		for _, n := range noSectors(3) {
			for _, at := range []int{-1, 0, 63, 64} {
				answers(t, "Turn of no sector", d.Turn(n, at, 1), api.ErrArg)
			}
		}
		for _, at := range []int{math.MinInt, -64, -1, 64, 65, 128, math.MaxInt} {
			for n := range 3 {
				answers(t, "Turn of no byte", d.Turn(n, at, 1), api.ErrArg)
			}
		}
	}
	wrong()
	isWaiting(t, d)
	answers(t, "Fuse(0)", d.Fuse(0), api.OK)
	wrong()
	isWaiting(t, d)
	answers(t, "Sync", d.Sync(), api.ErrState)
	wrong()
	for n := range 3 {
		answers(t, "Turn of what is blown", d.Turn(n, 0, 1), api.ErrState)
	}
	is(t, d, 3, 5, true)
	answers(t, "Fuse(-1)", d.Fuse(-1), api.OK)
	isWaiting(t, d)
}

// P5.5: the fuse lets as many be as ahead of it; one that lets none be, but is not blown, is no hindrance, and stays.
func TestTurnFuse(t *testing.T) {
	for _, fuse := range []int{-1, 0, 1, 2, 5} {
		d := waiting(t)
		answers(t, "Fuse", d.Fuse(fuse), api.OK)
		for range 10 {
			answers(t, "Turn", d.Turn(0, 0, 1), api.OK)
			is(t, d, 3, 0, false)
		}
		isBurnt(t, d, fuse)
	}
}

// P5.6: so many calls more are let be, whichever of both they are; then none, till there is another fuse.
func TestFuse(t *testing.T) {
	for fuse := range 40 {
		for _, kind := range []int{1, 2, 3, 41} {
			d := made(t, 2)
			answers(t, "Fuse", d.Fuse(fuse), api.OK)
			for i := range fuse + 5 {
				want := api.OK
				if i >= fuse {
					want = api.ErrState
				}
				if i%kind == 0 {
					answers(t, "Write", d.Write(1, text(byte(i), i)), want)
				} else {
					answers(t, "Sync", d.Sync(), want)
				}
				if d.Blown() != (i >= fuse) {
					t.Fatalf("a fuse of %d, behind %d calls: blown is %t", fuse, i+1, d.Blown())
				}
			}
		}
	}
}

// P5.6: below 0, all are let be; whatever was let be, or not, ahead of it.
func TestFuseAll(t *testing.T) {
	for _, all := range []int{-1, -2, -1000, math.MinInt, math.MinInt + 1} {
		for _, ahead := range []int{-1, 0, 1, 2} {
			d := made(t, 1)
			answers(t, "Fuse", d.Fuse(ahead), api.OK)
			d.Sync()
			answers(t, "Fuse", d.Fuse(all), api.OK)
			is(t, d, 1, 0, false)
			for range 5000 {
				answers(t, "Sync", d.Sync(), api.OK)
			}
			is(t, d, 1, 0, false)
		}
	}
}

// P5.6: a fuse takes the place of the one ahead of it, and is not added to it; a blown one is blown no more.
func TestFuseAgain(t *testing.T) {
	for _, first := range []int{-1, 0, 1, 3, 100} {
		for _, calls := range []int{0, 1, 4} {
			for _, second := range []int{-1, 0, 1, 3} {
				d := made(t, 1)
				answers(t, "Fuse", d.Fuse(first), api.OK)
				for range calls {
					d.Sync()
				}
				is(t, d, 1, 0, first >= 0 && calls > first)
				answers(t, "Fuse", d.Fuse(second), api.OK)
				is(t, d, 1, 0, false)
				isBurnt(t, d, second)
			}
		}
	}
}

// P5.6: the greatest fuse there is, and what waits behind each: nothing is lost of it.
func TestFuseKeepsWhatWaits(t *testing.T) {
	d := waiting(t)
	for _, fuse := range []int{math.MaxInt, math.MaxInt - 1, 0, 1, -1, math.MinInt} {
		answers(t, "Fuse", d.Fuse(fuse), api.OK)
		isWaiting(t, d)
	}
	answers(t, "Fuse", d.Fuse(math.MaxInt), api.OK)
	isBurnt(t, d, -1)
}

// P5.6: neither what is read, nor a call that answers ErrArg, nor Fail uses it up.
func TestFuseOfOtherCalls(t *testing.T) {
	d := waiting(t)
	answers(t, "Fuse(1)", d.Fuse(1), api.OK)
	for range 5 {
		isWaiting(t, d)
		answers(t, "Write of no sector", d.Write(3, nil), api.ErrArg)
		answers(t, "Write of too much", d.Write(0, text(1, 65)), api.ErrArg)
		answers(t, "Turn of no sector", d.Turn(3, 0, 1), api.ErrArg)
		if _, e := d.Read(3); e != api.ErrArg {
			t.Fatal(e)
		}
	}
	isBurnt(t, d, 1)
}
