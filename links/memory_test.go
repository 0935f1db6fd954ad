package links_test

import (
	"slices"
	"sync"
	"testing"

	"almoner/api"
	"almoner/links"
)

// overwrite changes all of a list, its spare room too.
func overwrite(l []api.Sum) {
	l = l[:cap(l)]
	for i := range l {
		for j := range l[i] {
			l[i][j] ^= 0x5a
		}
	}
}

// roomy is so many sums, with spare room behind them that holds sums as well.
func roomy(n int) []api.Sum { return list(n + 9)[:n] }

// stays fails the test if a list of roomy isn't as it was, its spare room too.
func stays(t *testing.T, l []api.Sum) {
	t.Helper()
	if !slices.Equal(l[:cap(l)][:len(l)+9], list(len(l)+9)) {
		t.Errorf("a list of %d sums that was handed in is another one by now", len(l))
	}
}

// R4: what is handed in to Of is not changed, its spare room neither, and the spare room counts for nothing.
func TestOfHandedInStays(t *testing.T) {
	for n := range 70 {
		l := roomy(n)
		for from := -1; from <= n+1; from++ {
			link, e := links.Of(l, from)
			stays(t, l)
			if from < 1 || from > n {
				if e != api.ErrArg || link != nil {
					t.Errorf("Of(%d sums, %d) = %x, %v", n, from, link, e)
				}
			} else if !slices.Equal(link, wantedLink(list(n), from, true)) {
				t.Errorf("Of(%d sums, %d) = %x", n, from, link)
			}
		}
	}
}

// R4: what is handed in to Check is not changed, its spare room neither, whatever is answered.
func TestCheckHandedInStays(t *testing.T) {
	for size := uint64(1); size < 36; size++ {
		for from := range size + 2 {
			for many := range 9 {
				link := roomy(many)
				a := sum(1 << 19)
				want := from > 0 && from <= size && many == taken(from, size, true)
				to := pair{a, a}
				if want {
					to = wantedEnds(from, size, a, true, list(many))
				}
				for range 2 {
					letBe(t, want, from, size, to.a, to.b, link)
					stays(t, link)
				}
			}
		}
	}
}

// R4: a link that whoever asked turns, writes over, or puts more behind, changes nothing: neither the leaves, nor what is asked again.
func TestLinkIsNew(t *testing.T) {
	for n := 1; n < 40; n++ {
		l := roomy(n)
		for from := 1; from <= n; from++ {
			want := wantedLink(list(n), from, true)
			for _, change := range []func([]api.Sum){slices.Reverse[[]api.Sum], overwrite, func(link []api.Sum) { _ = append(link, sum(1), sum(2), sum(3)) }} {
				change(of(t, l, from))
				stays(t, l)
				if got := of(t, l, from); !slices.Equal(got, want) {
					t.Errorf("Of(%d sums, %d) is another link by now: %x", n, from, got)
				}
			}
		}
	}
}

// R4: two answers share no memory, of one beginning or of two; and a link stays, whatever becomes of the leaves.
func TestLinksStay(t *testing.T) {
	for n := 1; n < 40; n++ {
		l := list(n)
		var all [][]api.Sum
		for range 2 {
			for from := 1; from <= n; from++ {
				all = append(all, of(t, l, from))
			}
		}
		for _, link := range all[n:] {
			overwrite(link)
		}
		overwrite(l)
		for i, link := range all[:n] {
			if !slices.Equal(link, wantedLink(list(n), i+1, true)) {
				t.Errorf("of %d sums, the link of the first %d is another one by now", n, i+1)
			}
			overwrite(link)
		}
		want := list(n)
		overwrite(want)
		if !slices.Equal(l, want) {
			t.Errorf("of %d sums, a link that was written over changed the leaves", n)
		}
	}
}

// R4: what was handed in to Check is not kept: what is asked next is of what is there by then.
func TestNothingIsKept(t *testing.T) {
	l := list(21)
	b := wantedRoot(l)
	for from := 1; from <= 21; from++ {
		a, link := wantedRoot(l[:from]), wantedLink(l, from, true)
		letBe(t, true, uint64(from), 21, a, b, link)
		overwrite(link)
		letBe(t, len(link) == 0, uint64(from), 21, a, b, link)
		overwrite(link)
		letBe(t, true, uint64(from), 21, a, b, link)
	}
}

// R5: what is answered hangs on nothing that was asked before.
func TestAskedBetween(t *testing.T) {
	l := list(21)
	b := wantedRoot(l)
	for from := 1; from <= 21; from++ {
		a, link := wantedRoot(l[:from]), of(t, l, from)
		for _, between := range []func(){
			func() { links.Check(1, 1<<60, a, b, nil) },
			func() { links.Check(3, 2, a, b, link) },
			func() { links.Check(0, 21, a, b, link) },
			func() { links.Check(uint64(from), 21, b, a, link) },
			func() { links.Check(uint64(from), 21, a, b, link[:len(link)/2]) },
			func() { links.Check(uint64(from), 21, a, b, append(slices.Clone(link), a)) },
			func() { links.Of(l, -1) },
			func() { links.Of(list(50), 33) },
		} {
			between()
			letBe(t, true, uint64(from), 21, a, b, link)
			if got := of(t, l, from); !slices.Equal(got, link) {
				t.Errorf("Of(21 sums, %d) is another link by now", from)
			}
		}
	}
}

// R5: what is asked at the same time, of the same lists, is what is asked one by one.
func TestAtTheSameTime(t *testing.T) {
	l := list(60)
	b := wantedRoot(l)
	a, link := wantedRoot(l[:37]), wantedLink(l, 37, true)
	var group sync.WaitGroup
	for range 8 {
		group.Go(func() {
			for from := 1; from <= 60; from++ {
				own, e := links.Of(l, from)
				if e != api.OK || !links.Check(uint64(from), 60, wantedRoot(l[:from]), b, own) {
					t.Errorf("Of(60 sums, %d) = %x, %v", from, own, e)
				}
				overwrite(own)
				if links.Check(uint64(from), 60, a, b, link) != (from == 37) {
					t.Errorf("the link of the first 37 of the first %d", from)
				}
				if links.Check(37, 60, a, b, link[1:]) {
					t.Error("a link of too few sums")
				}
			}
		})
	}
	group.Wait()
}
