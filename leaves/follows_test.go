package leaves_test

import (
	"slices"
	"testing"

	"almoner/api"
	"almoner/leaves"
)

// paired is each two neighbours put together.
func paired(l []api.Sum) []api.Sum {
	var out []api.Sum
	for two := range slices.Chunk(l, 2) {
		out = append(out, leaves.Node(two[0], two[1]))
	}
	return out
}

// P8.3: of a power of two of sums, each two neighbours put together, there is the same root, down to one sum, which is the root.
func TestNeighboursPutTogether(t *testing.T) {
	for power := range 14 {
		l := list(1 << power)
		root := leaves.Root(l)
		for len(l) > 1 {
			l = paired(l)
			if got := leaves.Root(l); got != root {
				t.Errorf("of %d sums, put together to %d: %x, not %x", 1<<power, len(l), got, root)
			}
		}
		is(t, "what is left", l[0], root)
	}
}

// P8.3: so it is of any sums, though all be the same, or one another.
func TestNeighboursOfTheSame(t *testing.T) {
	for power := 1; power < 8; power++ {
		l := slices.Repeat([]api.Sum{sum(5)}, 1<<power)
		is(t, "of one sum", leaves.Root(paired(l)), leaves.Root(l))
		l[len(l)-1] = sum(6)
		is(t, "of two sums", leaves.Root(paired(l)), leaves.Root(l))
	}
}

// P8.3: with one more behind a power of two the root is the node of what was and that.
func TestOneMoreBehind(t *testing.T) {
	for power := range 14 {
		l := list(1 << power)
		for _, more := range []api.Sum{{}, sum(1 << 20), l[0], leaves.Root(l)} {
			got := leaves.Root(append(slices.Clone(l), more))
			if want := leaves.Node(leaves.Root(l), more); got != want {
				t.Errorf("of %d sums and one more: %x, not %x", len(l), got, want)
			}
		}
	}
}

// P8.3: so it is of a power of two alone: behind each other number of sums one more goes farther down.
func TestOneMoreBehindOthers(t *testing.T) {
	for n := 1; n < 130; n++ {
		l := list(n + 1)
		same := leaves.Root(l) == leaves.Node(leaves.Root(l[:n]), l[n])
		if power := n&(n-1) == 0; same != power {
			t.Errorf("of %d sums and one more: the node is the root: %t", n, same)
		}
	}
}
