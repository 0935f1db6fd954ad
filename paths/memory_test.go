package paths_test

import (
	"slices"
	"sync"
	"testing"

	"almoner/api"
	"almoner/paths"
)

// overwrite changes all of a list, its spare room too.
func overwrite(l []api.Sum) {
	l = l[:cap(l)]
	for i := range l {
		for j := range l[i] {
			l[i][j] ^= 0x5a
		}
	}
}

// roomy is so many sums, with spare room behind them that holds sums as well.
func roomy(n int) []api.Sum { return list(n + 9)[:n] }

// stays fails the test if a list of roomy isn't as it was, its spare room too.
func stays(t *testing.T, l []api.Sum) {
	t.Helper()
	if !slices.Equal(l[:cap(l)][:len(l)+9], list(len(l)+9)) {
		t.Errorf("a list of %d sums that was handed in is another one by now", len(l))
	}
}

// R4: what is handed in to Of is not changed, its spare room neither, and the spare room counts for nothing.
func TestOfHandedInStays(t *testing.T) {
	for n := range 70 {
		l := roomy(n)
		for at := -1; at <= n; at++ {
			path, _ := paths.Of(l, at)
			stays(t, l)
			if at >= 0 && at < n && !slices.Equal(path, wantedPath(list(n), at)) {
				t.Errorf("Of(%d sums, %d) = %x", n, at, path)
			}
		}
	}
}

// R4: what is handed in to Check is not changed, its spare room neither, whatever is answered.
func TestCheckHandedInStays(t *testing.T) {
	leaf := sum(1 << 19)
	for size := uint64(1); size < 40; size++ {
		for at := range size + 1 {
			for many := range 9 {
				path := roomy(many)
				want := at < size && many == taken(at, size)
				root := leaf
				if want {
					root = wantedEnd(leaf, at, size, list(many))
				}
				for range 2 {
					letBe(t, want, leaf, at, size, path, root)
					stays(t, path)
				}
			}
		}
	}
}

// R4: a path that whoever asked turns, writes over, or puts more behind, changes nothing: neither the leaves, nor what is asked again.
func TestPathIsNew(t *testing.T) {
	for n := 1; n < 40; n++ {
		l := roomy(n)
		for at := range n {
			want := wantedPath(list(n), at)
			for _, change := range []func([]api.Sum){slices.Reverse[[]api.Sum], overwrite, func(path []api.Sum) { _ = append(path, sum(1), sum(2), sum(3)) }} {
				change(of(t, l, at))
				stays(t, l)
				if got := of(t, l, at); !slices.Equal(got, want) {
					t.Errorf("Of(%d sums, %d) is another path by now: %x", n, at, got)
				}
			}
		}
	}
}

// R4: two answers share no memory, of one place or of two; and a path stays, whatever becomes of the leaves.
func TestPathsStay(t *testing.T) {
	for n := 1; n < 40; n++ {
		l := list(n)
		var all [][]api.Sum
		for range 2 {
			for at := range l {
				all = append(all, of(t, l, at))
			}
		}
		for _, path := range all[n:] {
			overwrite(path)
		}
		overwrite(l)
		for at, path := range all[:n] {
			if !slices.Equal(path, wantedPath(list(n), at)) {
				t.Errorf("of %d sums, the path of %d is another one by now", n, at)
			}
			overwrite(path)
		}
		want := list(n)
		overwrite(want)
		if !slices.Equal(l, want) {
			t.Errorf("of %d sums, a path that was written over changed the leaves", n)
		}
	}
}

// R5: what is answered hangs on nothing that was asked before.
func TestAskedBetween(t *testing.T) {
	l := list(21)
	root := wantedRoot(l)
	for at, leaf := range l {
		path := of(t, l, at)
		for _, between := range []func(){
			func() { paths.Check(leaf, 0, 1<<60, nil, root) },
			func() { paths.Check(leaf, 3, 2, path, root) },
			func() { paths.Check(leaf, uint64(at), 21, path[1:], root) },
			func() { paths.Check(leaf, uint64(at), 21, append(slices.Clone(path), root), root) },
			func() { paths.Of(l, -1) },
			func() { paths.Of(list(50), 33) },
		} {
			between()
			letBe(t, true, leaf, uint64(at), 21, path, root)
			if got := of(t, l, at); !slices.Equal(got, path) {
				t.Errorf("Of(21 sums, %d) is another path by now", at)
			}
		}
	}
}

// R5: what is asked at the same time, of the same lists, is what is asked one by one.
func TestAtTheSameTime(t *testing.T) {
	l := list(100)
	root := wantedRoot(l)
	path := wantedPath(l, 37)
	var group sync.WaitGroup
	for range 8 {
		group.Go(func() {
			for at, leaf := range l {
				own, e := paths.Of(l, at)
				if e != api.OK || !paths.Check(leaf, uint64(at), 100, own, root) {
					t.Errorf("Of(100 sums, %d) = %x, %v", at, own, e)
				}
				overwrite(own)
				if paths.Check(leaf, uint64(at), 100, path, root) != (at == 37) {
					t.Errorf("the path of 37 at %d", at)
				}
				if paths.Check(leaf, uint64(at), 100, path[1:], root) {
					t.Errorf("a path of too few sums at %d", at)
				}
			}
		})
	}
	group.Wait()
}
