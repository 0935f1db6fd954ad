package paths_test

import (
	"math/bits"
	"slices"
	"testing"

	"almoner/api"
	"almoner/fronts"
	"almoner/leaves"
	"almoner/paths"
)

// P10.3: the path of each leaf is let be, by its place, the size and the root.
func TestEachPathIsLetBe(t *testing.T) {
	for n := 1; n <= 100; n++ {
		l := list(n)
		root := leaves.Root(l)
		for at, leaf := range l {
			letBe(t, true, leaf, uint64(at), uint64(n), of(t, l, at), root)
		}
	}
}

// P10.3: likewise of many leaves, at some of their places and the last one.
func TestManyPathsAreLetBe(t *testing.T) {
	all := list(1<<15 + 1)
	for _, n := range append(edges(), 1<<12-1, 1<<12, 1<<15+1) {
		l := all[:n]
		root := leaves.Root(l)
		for at := 0; at < n; at += n/20 + 1 {
			letBe(t, true, l[at], uint64(at), uint64(n), of(t, l, at), root)
		}
		letBe(t, true, l[n-1], uint64(n-1), uint64(n), of(t, l, n-1), root)
	}
}

// P10.3: the root is that of a tree that grew, too.
func TestPathsOfAFront(t *testing.T) {
	f := fronts.New()
	for n, s := range list(70) {
		if e := f.Add(s); e != api.OK {
			t.Fatal(e)
		}
		l := list(n + 1)
		for at, leaf := range l {
			letBe(t, true, leaf, uint64(at), f.Size(), of(t, l, at), f.Root())
		}
	}
}

// P10.3: a path has at most as many sums as the size less one has bits; the first leaf's has just so many.
func TestNoMoreSumsThanBits(t *testing.T) {
	for _, n := range append(edges(), 5, 6, 9, 10, 11, 12, 13, 14, 21, 22, 37, 100, 1000) {
		l := list(n)
		most := bits.Len(uint(n - 1))
		for at := 0; at < n; at += n/30 + 1 {
			if got := len(of(t, l, at)); got > most {
				t.Errorf("Of(%d sums, %d): %d sums, more than %d", n, at, got, most)
			}
		}
		if got := len(of(t, l, 0)); got != most {
			t.Errorf("Of(%d sums, 0): %d sums, not %d", n, got, most)
		}
		if got := len(of(t, l, n-1)); got > most {
			t.Errorf("Of(%d sums, %d): %d sums, more than %d", n, n-1, got, most)
		}
	}
}

// P10.3: a path that has more sums than the size less one has bits is not let be, at any place.
func TestMoreSumsThanBitsAreNotLetBe(t *testing.T) {
	leaf := sum(1 << 19)
	for _, size := range great() {
		path := list(bits.Len64(size-1) + 1)
		for _, at := range []uint64{0, size / 2, size - 1} {
			needed := path[:taken(at, size)]
			letBe(t, true, leaf, at, size, needed, wantedEnd(leaf, at, size, needed))
			letBe(t, false, leaf, at, size, path, wantedEnd(leaf, at, size, needed))
			letBe(t, false, leaf, at, size, path, wantedNode(wantedEnd(leaf, at, size, needed), path[len(path)-1]))
			letBe(t, false, leaf, at, size, path, wantedNode(path[len(path)-1], wantedEnd(leaf, at, size, needed)))
		}
	}
}

// P10.3: a path that is let be of one leaf's sum is none of another one's: at its place no other leaf of the tree is, nor a node.
func TestNoOtherLeaf(t *testing.T) {
	for n := 2; n <= 40; n++ {
		l := list(n)
		root := leaves.Root(l)
		for at := range l {
			path := of(t, l, at)
			for other, leaf := range l {
				letBe(t, other == at, leaf, uint64(at), uint64(n), path, root)
			}
			for _, node := range path {
				letBe(t, false, node, uint64(at), uint64(n), path, root)
			}
			letBe(t, false, root, uint64(at), uint64(n), path, root)
			letBe(t, false, api.Sum{}, uint64(at), uint64(n), path, root)
		}
	}
}

// P10.3: of two trees of as many leaves that part at one leaf, that leaf's path is the same, and each root lets only its own leaf be.
func TestTreesThatPart(t *testing.T) {
	for n := 1; n <= 40; n++ {
		for at := range n {
			one, other := list(n), list(n)
			other[at][17] ^= 4
			path := of(t, one, at)
			if !slices.Equal(path, of(t, other, at)) {
				t.Errorf("%d sums, parted at %d: two paths", n, at)
			}
			place, size := uint64(at), uint64(n)
			letBe(t, true, one[at], place, size, path, leaves.Root(one))
			letBe(t, true, other[at], place, size, path, leaves.Root(other))
			letBe(t, false, one[at], place, size, path, leaves.Root(other))
			letBe(t, false, other[at], place, size, path, leaves.Root(one))
		}
	}
}

// P10.3: whatever is let be of a leaf of the tree at its place and of the size is its path: no second one is found among those that part from it.
func TestNoOtherPath(t *testing.T) {
	for _, n := range []int{1, 2, 3, 5, 8, 13, 32, 33} {
		l := list(n)
		root := leaves.Root(l)
		for at, leaf := range l {
			for other := range l {
				path := of(t, l, other)
				same := slices.Equal(path, of(t, l, at))
				if got := paths.Check(leaf, uint64(at), uint64(n), path, root); got != same {
					t.Errorf("of %d sums, the path of %d is let be of %d: %v", n, other, at, got)
				}
			}
		}
	}
}
