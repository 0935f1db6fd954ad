package fronts_test

import (
	"math/bits"
	"slices"
	"testing"

	"almoner/api"
	"almoner/fronts"
	"almoner/leaves"
)

// fromBehind is the last two put together, then the one ahead and that, and so on.
func fromBehind(l []api.Sum) api.Sum {
	for len(l) > 1 {
		n := len(l) - 2
		l = append(slices.Clone(l[:n]), leaves.Node(l[n], l[n+1]))
	}
	return l[0]
}

// edges are numbers of leaves round each power of two, up to some thousands.
func edges() []int {
	out := []int{0, 1, 2}
	for power := 4; power <= 1<<12; power *= 2 {
		out = append(out, power-2, power-1, power, power+1, power+2)
	}
	return out
}

// P9.4: there are as many whole trees as Size has bits that are set.
func TestAsManyTreesAsBits(t *testing.T) {
	f := fronts.New()
	for n, s := range list(1<<12 + 3) {
		if got, want := len(f.Sums()), bits.OnesCount(uint(n)); got != want {
			t.Errorf("behind %d leaves: %d whole trees, not %d", n, got, want)
		}
		if got, want := len(f.Sums()), bits.OnesCount64(f.Size()); got != want {
			t.Errorf("behind %d leaves: %d whole trees, and %d bits of Size", n, got, want)
		}
		add(t, f, s)
	}
}

// P9.4: of the bits that are set, from the highest one on, each is a whole tree of as many leaves.
func TestEachBitIsATree(t *testing.T) {
	all := list(1<<12 + 2)
	for _, n := range edges() {
		sums := grown(t, all[:n]...).Sums()
		from := 0
		for bit := 12; bit >= 0; bit-- {
			if n>>bit&1 == 0 {
				continue
			}
			if len(sums) == 0 {
				t.Fatalf("behind %d leaves: no whole tree of %d", n, 1<<bit)
			}
			is(t, "a whole tree", sums[0], leaves.Root(all[from:from+1<<bit]))
			from += 1 << bit
			sums = sums[1:]
		}
		if len(sums) > 0 {
			t.Errorf("behind %d leaves: %d whole trees too many", n, len(sums))
		}
	}
}

// P9.4: the root is that of the last two whole trees put together, then of the one ahead and that, and so on.
func TestRootFromBehind(t *testing.T) {
	f := fronts.New()
	for n, s := range list(1 << 11) {
		add(t, f, s)
		if got, want := f.Root(), fromBehind(f.Sums()); got != want {
			t.Errorf("behind %d leaves: Root = %x, not %x", n+1, got, want)
		}
	}
}

// P9.4: of a power of two there is one whole tree, which is the root; with one more behind it there are two, and the root is the node of both.
func TestPowersOfTwo(t *testing.T) {
	for power := 1; power < 14; power++ {
		l := list(1<<power + 1)
		last := len(l) - 1
		f := grown(t, l[:last]...)
		root := f.Root()
		if got := f.Sums(); !slices.Equal(got, []api.Sum{root}) {
			t.Errorf("behind %d leaves: Sums = %x, and the root is %x", last, got, root)
		}
		add(t, f, l[last])
		if got := f.Sums(); !slices.Equal(got, []api.Sum{root, l[last]}) {
			t.Errorf("behind %d leaves: Sums = %x", last+1, got)
		}
		is(t, "with one more", f.Root(), leaves.Node(root, l[last]))
	}
}

// P9.4: each so many leaves, of a power of two, may stand as their root: the whole trees are the same.
func TestTreesStandForLeaves(t *testing.T) {
	for _, power := range []int{1, 2, 4, 16, 64} {
		for n := range 20 {
			all := list(power * n)
			trees := fronts.New()
			for some := range slices.Chunk(all, power) {
				add(t, trees, leaves.Root(some))
			}
			f := grown(t, all...)
			is(t, "Root", f.Root(), trees.Root())
			if !slices.Equal(f.Sums(), trees.Sums()) {
				t.Errorf("%d trees of %d leaves: other whole trees", n, power)
			}
		}
	}
}
