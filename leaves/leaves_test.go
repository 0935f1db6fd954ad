package leaves_test

import (
	"bytes"
	"crypto/sha256"
	"encoding/hex"
	"math/rand"
	"slices"
	"testing"

	"almoner/api"
	"almoner/leaves"
	"almoner/shas"
)

// lengths are round those at which a leaf, its mark ahead, fills a block of SHA-256, or its end needs one more.
var lengths = []int{0, 1, 2, 31, 32, 33, 54, 55, 56, 62, 63, 64, 65, 118, 119, 120, 127, 128, 1000, 16384}

// row is so many bytes, unlike their neighbours and those 64 behind them.
func row(n int) []byte {
	b := make([]byte, n)
	for i := range b {
		b[i] = byte(i*7 + i>>6*29 + 3)
	}
	return b
}

// sum is one of all bytes unlike, another one for each number.
func sum(n int) api.Sum { return sha256.Sum256([]byte{byte(n), byte(n >> 8), byte(n >> 16), 's'}) }

// list is so many sums, no two the same.
func list(n int) []api.Sum {
	l := make([]api.Sum, n)
	for i := range l {
		l[i] = sum(i)
	}
	return l
}

// wantedLeaf is a leaf's sum by the document's words.
func wantedLeaf(b []byte) api.Sum { return sha256.Sum256(slices.Concat([]byte{0}, b)) }

// wantedNode is a node's.
func wantedNode(l, r api.Sum) api.Sum {
	return sha256.Sum256(slices.Concat([]byte{1}, l[:], r[:]))
}

// wantedRoot is the root by the document's words: the greatest power of two that is less than all is found by doubling.
func wantedRoot(l []api.Sum) api.Sum {
	switch len(l) {
	case 0:
		return sha256.Sum256(nil)
	case 1:
		return l[0]
	}
	first := 1
	for first*2 < len(l) {
		first *= 2
	}
	return wantedNode(wantedRoot(l[:first]), wantedRoot(l[first:]))
}

// is fails the test if the sum is not the one that is wanted.
func is(t *testing.T, what string, got, want api.Sum) {
	t.Helper()
	if got != want {
		t.Errorf("%s = %x, not %x", what, got, want)
	}
}

// digits is a sum of its digits of 16.
func digits(t *testing.T, text string) api.Sum {
	t.Helper()
	b, err := hex.DecodeString(text)
	if err != nil || len(b) != len(api.Sum{}) {
		t.Fatalf("%q is no sum", text)
	}
	return api.Sum(b)
}

// P8.1: of no bytes what the document tells, whether the list is nil, empty, or has spare room.
func TestLeafOfNone(t *testing.T) {
	told := digits(t, "6e340b9cffb37a989ca544e6bb780a2c78901d3fb33738768511a30617afa01d")
	for _, b := range [][]byte{nil, {}, row(70)[:0]} {
		is(t, "Leaf(none)", leaves.Leaf(b), told)
	}
}

// P8.1: each byte alone, and bytes that begin with a mark: they are as any others.
func TestLeafOfMarks(t *testing.T) {
	seen := map[api.Sum][]byte{}
	hold := func(b []byte) {
		t.Helper()
		got := leaves.Leaf(b)
		is(t, "Leaf", got, wantedLeaf(b))
		is(t, "Leaf, by shas.Of,", got, shas.Of(slices.Concat([]byte{0}, b)))
		if other, was := seen[got]; was {
			t.Errorf("the leaves %v and %v have one sum", other, b)
		}
		seen[got] = b
	}
	hold(nil)
	for d := range 256 {
		hold([]byte{byte(d)})
	}
	for _, first := range []byte{0, 1, 2, 255} {
		for n := 1; n < 140; n++ {
			hold(slices.Concat([]byte{first}, row(n)))
		}
	}
	for n := 2; n < 140; n++ {
		hold(make([]byte, n))
		hold(bytes.Repeat([]byte{1}, n))
	}
}

// P8.1: every length up to some hundreds, and many bytes.
func TestLeafOfEveryLength(t *testing.T) {
	for n := range 400 {
		is(t, "Leaf", leaves.Leaf(row(n)), wantedLeaf(row(n)))
	}
	for _, n := range append([]int{1 << 20, 1<<22 + 7}, lengths...) {
		is(t, "Leaf of many", leaves.Leaf(row(n)), wantedLeaf(row(n)))
	}
}

// P8.1: two sums, each on its side, of all sorts: the lowest and the highest bytes, those that the other one has, too.
func TestNode(t *testing.T) {
	highest := api.Sum(bytes.Repeat([]byte{255}, 32))
	all := []api.Sum{{}, {1}, {31: 1}, highest, sum(1), sum(2), leaves.Leaf(nil), shas.Of(nil), api.Sum(row(32))}
	for _, l := range all {
		for _, r := range all {
			got := leaves.Node(l, r)
			is(t, "Node", got, wantedNode(l, r))
			is(t, "Node, by shas.Of,", got, shas.Of(slices.Concat([]byte{1}, l[:], r[:])))
		}
	}
}

// P8.1: of a sum and itself, and of two turned round: no two have the same node.
func TestNodeTurned(t *testing.T) {
	seen := map[api.Sum][2]int{}
	for i := range 12 {
		for j := range 12 {
			got := leaves.Node(sum(i), sum(j))
			if other, was := seen[got]; was {
				t.Errorf("the nodes of %v and of %v have one sum", other, [2]int{i, j})
			}
			seen[got] = [2]int{i, j}
		}
	}
}

// P8.1: a leaf that has the bytes of two sums is not their node, nor is a leaf that has a node's bytes.
func TestLeafIsNoNode(t *testing.T) {
	l, r := sum(1), sum(2)
	node := leaves.Node(l, r)
	for _, b := range [][]byte{slices.Concat(l[:], r[:]), slices.Concat([]byte{1}, l[:], r[:]), slices.Concat([]byte{0}, l[:], r[:])} {
		if leaves.Leaf(b) == node {
			t.Errorf("the leaf of %d bytes is the node", len(b))
		}
	}
}

// P8.2: of no sums what the document tells, whether the list is nil, empty, or has spare room.
func TestRootOfNone(t *testing.T) {
	told := digits(t, "e3b0c44298fc1c149afbf4c8996fb92427ae41e4649b934ca495991b7852b855")
	for _, l := range [][]api.Sum{nil, {}, list(3)[:0]} {
		is(t, "Root(none)", leaves.Root(l), told)
	}
}

// P8.2: of one that, whatever it is, of two their node, of three what the document tells.
func TestRootOfFew(t *testing.T) {
	a, b, c := sum(1), sum(2), sum(3)
	for _, one := range []api.Sum{{}, a, b, shas.Of(nil), leaves.Leaf(nil), leaves.Node(a, b)} {
		is(t, "Root(one)", leaves.Root([]api.Sum{one}), one)
	}
	is(t, "Root(a, b)", leaves.Root([]api.Sum{a, b}), leaves.Node(a, b))
	is(t, "Root(b, a)", leaves.Root([]api.Sum{b, a}), leaves.Node(b, a))
	is(t, "Root(a, a)", leaves.Root([]api.Sum{a, a}), leaves.Node(a, a))
	is(t, "Root(a, b, c)", leaves.Root([]api.Sum{a, b, c}), leaves.Node(leaves.Node(a, b), c))
	is(t, "Root(c, b, a)", leaves.Root([]api.Sum{c, b, a}), leaves.Node(leaves.Node(c, b), a))
}

// P8.2: the trees that logs of RFC 6962 are tested by.
func TestRootKnown(t *testing.T) {
	var l []api.Sum
	for i, c := range []struct{ entry, root string }{
		{"", "6e340b9cffb37a989ca544e6bb780a2c78901d3fb33738768511a30617afa01d"},
		{"00", "fac54203e7cc696cf0dfcb42c92a1d9dbaf70ad9e621f4bd8d98662f00e3c125"},
		{"10", "aeb6bcfe274b70a14fb067a5e5578264db0fa9b51af5e0ba159158f329e06e77"},
		{"2021", "d37ee418976dd95753c1c73862b9398fa2a2cf9b4ff0fdfe8b30cd95209614b7"},
		{"3031", "4e3bbb1f7b478dcfe71fb631631519a3bca12c9aefca1612bfce4c13a86264d4"},
		{"40414243", "76e67dadbcdf1e10e1b74ddc608abd2f98dfb16fbce75277b5232a127f2087ef"},
		{"5051525354555657", "ddb89be403809e325750d3d263cd78929c2942b7942a34b77e122c9594a74c8c"},
		{"606162636465666768696a6b6c6d6e6f", "5dc9da79a70659a9ad559cb701ded9a2ab9d823aad2f4960cfe370eff4604328"},
	} {
		b, err := hex.DecodeString(c.entry)
		if err != nil {
			t.Fatal(err)
		}
		l = append(l, leaves.Leaf(b))
		if got := leaves.Root(l); got != digits(t, c.root) {
			t.Errorf("the root of %d leaves = %x", i+1, got)
		}
	}
}

// P8.2: each number of sums up to some hundreds, all powers of two among them, and what is round these.
func TestRootOfEveryNumber(t *testing.T) {
	seen := map[api.Sum]int{}
	for n := range 600 {
		got := leaves.Root(list(n))
		if want := wantedRoot(list(n)); got != want {
			t.Errorf("the root of %d sums = %x, not %x", n, got, want)
		}
		if other, was := seen[got]; was {
			t.Errorf("%d and %d sums have one root", other, n)
		}
		seen[got] = n
	}
}

// P8.2, R1: many sums.
func TestRootOfMany(t *testing.T) {
	for _, power := range []int{1 << 10, 1 << 13, 1 << 16} {
		for n := power - 2; n <= power+2; n++ {
			if leaves.Root(list(n)) != wantedRoot(list(n)) {
				t.Errorf("the root of %d sums is another one", n)
			}
		}
	}
}

// P8.2: each sum and its place count.
func TestRootOfOthers(t *testing.T) {
	for n := 2; n < 40; n++ {
		root := leaves.Root(list(n))
		for i := range n {
			l := list(n)
			l[i][31] ^= 1
			if got := leaves.Root(l); got == root || got != wantedRoot(l) {
				t.Errorf("of %d sums, with the one at %d another one: %x", n, i, got)
			}
			l = list(n)
			l[i], l[(i+1)%n] = l[(i+1)%n], l[i]
			if got := leaves.Root(l); got == root || got != wantedRoot(l) {
				t.Errorf("of %d sums, with the one at %d and the next one changed: %x", n, i, got)
			}
		}
	}
}

// P8.2: the same sum again and again: only how many there are counts.
func TestRootOfTheSame(t *testing.T) {
	for n := range 70 {
		for _, one := range []api.Sum{{}, sum(7), leaves.Leaf(nil)} {
			is(t, "the root of the same sum", leaves.Root(slices.Repeat([]api.Sum{one}, n)), wantedRoot(slices.Repeat([]api.Sum{one}, n)))
		}
	}
}

// P8.1, P8.2: any bytes, any sums.
func TestAny(t *testing.T) {
	random := rand.New(rand.NewSource(8))
	for range 400 {
		b, l := make([]byte, random.Intn(2000)), make([]api.Sum, random.Intn(300))
		random.Read(b)
		for i := range l {
			random.Read(l[i][:])
		}
		is(t, "Leaf", leaves.Leaf(b), wantedLeaf(b))
		is(t, "Root", leaves.Root(l), wantedRoot(l))
	}
}
