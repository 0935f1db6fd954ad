package leaves_test

import (
	"bytes"
	"slices"
	"sync"
	"testing"

	"almoner/api"
	"almoner/leaves"
)

// spare is so many bytes with spare room behind them, so that a call that writes into it is seen.
func spare(n int) []byte { return row(n + 200)[:n] }

// spareSums is so many sums with spare room behind them.
func spareSums(n int) []api.Sum { return list(n + 20)[:n] }

// overwrite changes all of b, its spare room too.
func overwrite(b []byte) {
	for i := range b[:cap(b)] {
		b[:cap(b)][i] ^= 0x5a
	}
}

// overwriteSums likewise.
func overwriteSums(l []api.Sum) {
	for i := range l[:cap(l)] {
		overwrite(l[:cap(l)][i][:])
	}
}

// R4: what is handed in is not changed, its spare room neither.
func TestHandedInStays(t *testing.T) {
	for _, n := range lengths {
		b := spare(n)
		before := slices.Clone(b[:cap(b)])
		leaves.Leaf(b)
		if !bytes.Equal(b[:cap(b)], before) {
			t.Errorf("a leaf of %d bytes: what was handed in is another one", n)
		}
	}
	for n := range 140 {
		l := spareSums(n)
		before := slices.Clone(l[:cap(l)])
		leaves.Root(l)
		if !slices.Equal(l[:cap(l)], before) {
			t.Errorf("%d sums: what was handed in is another one", n)
		}
	}
	l, r := sum(1), sum(2)
	leaves.Node(l, r)
	leaves.Root([]api.Sum{l, r})
	if l != sum(1) || r != sum(2) {
		t.Error("Node: what was handed in is another one")
	}
}

// R4: the spare room of what is handed in is not a part of it.
func TestSpareRoomIsNoPart(t *testing.T) {
	for _, n := range lengths {
		is(t, "Leaf with spare room", leaves.Leaf(spare(n)), wantedLeaf(row(n)))
	}
	for n := range 140 {
		is(t, "Root with spare room", leaves.Root(spareSums(n)), wantedRoot(list(n)))
	}
}

// R4: an answer is memory of its own: it stays, whatever becomes of what was handed in or of another answer.
func TestAnswersAreNew(t *testing.T) {
	for n := range 140 {
		b, l := spare(n), spareSums(n)
		leaf, root := leaves.Leaf(b), leaves.Root(l)
		other, otherRoot := leaves.Leaf(b), leaves.Root(l)
		overwrite(other[:])
		overwrite(otherRoot[:])
		is(t, "Leaf once more", leaves.Leaf(b), wantedLeaf(row(n)))
		is(t, "Root once more", leaves.Root(l), wantedRoot(list(n)))
		overwrite(b)
		overwriteSums(l)
		is(t, "Leaf behind that", leaf, wantedLeaf(row(n)))
		is(t, "Root behind that", root, wantedRoot(list(n)))
	}
}

// R4: of one sum the answer is a copy of it.
func TestRootOfOneIsNew(t *testing.T) {
	l := spareSums(1)
	root := leaves.Root(l)
	overwrite(root[:])
	is(t, "what was handed in", l[0], sum(0))
	root = leaves.Root(l)
	overwriteSums(l)
	is(t, "what was answered", root, sum(0))
}

// R4, R5: what was handed in is not kept: the next sum is of what is there by then, and of nothing that was asked before.
func TestNothingIsKept(t *testing.T) {
	b, l := spare(100), spareSums(100)
	for range 5 {
		is(t, "Leaf", leaves.Leaf(b), wantedLeaf(b))
		is(t, "Root", leaves.Root(l), wantedRoot(l))
		is(t, "Node", leaves.Node(l[0], l[1]), wantedNode(l[0], l[1]))
		overwrite(b)
		overwriteSums(l)
		b, l = b[:len(b)-1], l[:len(l)-1]
	}
	is(t, "Leaf(none)", leaves.Leaf(nil), wantedLeaf(nil))
	is(t, "Root(none)", leaves.Root(nil), wantedRoot(nil))
}

// R5: sums that are worked out at the same time, of the same memory, are those that are worked out one by one.
func TestAtTheSameTime(t *testing.T) {
	b, l := row(3000), list(300)
	var leaf, root, node [8]api.Sum
	var group sync.WaitGroup
	for i := range root {
		group.Go(func() {
			leaf[i], root[i], node[i] = leaves.Leaf(b[i:]), leaves.Root(l[i:]), leaves.Node(l[i], l[0])
		})
	}
	group.Wait()
	for i := range root {
		is(t, "Leaf", leaf[i], wantedLeaf(b[i:]))
		is(t, "Root", root[i], wantedRoot(l[i:]))
		is(t, "Node", node[i], wantedNode(l[i], l[0]))
	}
}
