package shas_test

import (
	"bytes"
	"slices"
	"sync"
	"testing"

	"almoner/api"
	"almoner/shas"
)

// spare is so many bytes with spare room behind them, so that a call that writes into it is seen.
func spare(n int) []byte { return row(n + 200)[:n] }

// overwrite changes all of b, its spare room too.
func overwrite(b []byte) {
	for i := range b[:cap(b)] {
		b[:cap(b)][i] ^= 0x5a
	}
}

// R4: what is handed in is not changed, its spare room neither.
func TestHandedInStays(t *testing.T) {
	for _, n := range edges {
		b := spare(n)
		before := slices.Clone(b[:cap(b)])
		shas.Of(b)
		r := shas.New()
		write(t, r, b)
		r.Sum()
		write(t, r, b)
		r.Sum()
		if !bytes.Equal(b[:cap(b)], before) {
			t.Errorf("of %d bytes: what was handed in is another one", n)
		}
	}
}

// R4: what was written is kept by its content, whatever becomes of that memory later: one list is written again and again, with other bytes.
func TestKeptByContent(t *testing.T) {
	for _, n := range edges {
		r, b := shas.New(), spare(n)
		var all []byte
		for i := range 5 {
			all = append(all, b...)
			write(t, r, b)
			overwrite(b)
			if got := r.Sum(); got != wanted(all) {
				t.Fatalf("%d times %d bytes: Sum = %x, not %x", i+1, n, got, wanted(all))
			}
			b = b[:cap(b)][i+1:][:n]
		}
	}
}

// R4: the spare room of what is handed in is not a part of it.
func TestSpareRoomIsNoPart(t *testing.T) {
	for _, n := range edges {
		want := wanted(row(n))
		r := shas.New()
		write(t, r, spare(n))
		if shas.Of(spare(n)) != want || r.Sum() != want {
			t.Errorf("of %d bytes with spare room: another sum", n)
		}
	}
}

// R4: an answer that is written into changes neither the run nor another answer.
func TestAnswersAreNew(t *testing.T) {
	r := shas.New()
	write(t, r, row(70))
	first, second := r.Sum(), r.Sum()
	overwrite(first[:])
	if second != wanted(row(70)) || r.Sum() != second || shas.Of(row(70)) != second {
		t.Error("an answer shares memory")
	}
}

// R5: two runs share nothing, and a sum hangs on nothing that was asked before.
func TestRunsShareNothing(t *testing.T) {
	var all [3][]byte
	runs := [3]*shas.Run{shas.New(), shas.New(), shas.New()}
	for i := range 200 {
		k := (i + i/5) % 3
		part := row(i + k)[i/2:]
		write(t, runs[k], part)
		all[k] = append(all[k], part...)
		shas.Of(part)
		for j, r := range runs {
			if r.Sum() != wanted(all[j]) {
				t.Fatalf("behind %d parts: run %d has another sum", i+1, j)
			}
		}
	}
	if shas.New().Sum() != wanted(nil) {
		t.Error("a new run isn't one to which nothing was written")
	}
}

// R5: sums that are worked out at the same time are those that are worked out one by one.
func TestAtTheSameTime(t *testing.T) {
	var got [8]api.Sum
	var group sync.WaitGroup
	for i := range got {
		group.Go(func() {
			r := shas.New()
			for part := range slices.Chunk(row(5000+i), 1+i) {
				r.Write(part)
			}
			got[i] = r.Sum()
		})
	}
	group.Wait()
	for i := range got {
		if got[i] != wanted(row(5000+i)) {
			t.Errorf("sum %d is another one", i)
		}
	}
}
