package sums_test

import (
	"bytes"
	"slices"
	"sync"
	"testing"

	"almoner/sums"
)

// spare is so many bytes with spare room behind them, so that a call that writes into it is seen.
func spare(n int) []byte { return row(n + 200)[:n] }

// overwrite changes all of b, its spare room too.
func overwrite(b []byte) {
	for i := range b[:cap(b)] {
		b[:cap(b)][i] ^= 0x5a
	}
}

// R4: what is handed in is not changed, its spare room neither.
func TestHandedInStays(t *testing.T) {
	for _, n := range lengths {
		b := spare(n)
		before := slices.Clone(b[:cap(b)])
		sums.Of(b)
		sums.On(1, b)
		sums.On(65535<<16+65535, b)
		if !bytes.Equal(b[:cap(b)], before) {
			t.Errorf("of %d bytes: what was handed in is another one", n)
		}
	}
}

// R4: the spare room of what is handed in is not a part of it.
func TestSpareRoomIsNoPart(t *testing.T) {
	for _, n := range lengths {
		if sums.Of(spare(n)) != wanted(1, row(n)) || sums.On(77<<16+5, spare(n)) != wanted(77<<16+5, row(n)) {
			t.Errorf("of %d bytes with spare room: another sum", n)
		}
	}
}

// R4, R5: what was handed in is not kept: the next sum is of what is there by then, and of nothing that was asked before.
func TestNothingIsKept(t *testing.T) {
	for _, n := range lengths {
		b := spare(n)
		for range 3 {
			hold(t, b)
			holdOn(t, 9<<16+8, b)
			overwrite(b)
		}
		if sums.Of(nil) != 1 || sums.On(0, nil) != 0 {
			t.Errorf("behind %d bytes: sums of none are other ones", n)
		}
	}
}

// R5: sums that are worked out at the same time, of the same memory, are those that are worked out one by one.
func TestAtTheSameTime(t *testing.T) {
	all := row(100000)
	var got [8]uint32
	var group sync.WaitGroup
	for i := range got {
		group.Go(func() {
			got[i] = sums.On(sums.Of(all[i:50000+i]), all[50000+i:])
		})
	}
	group.Wait()
	for i := range got {
		if got[i] != wanted(1, all[i:]) {
			t.Errorf("sum %d is another one", i)
		}
	}
}
