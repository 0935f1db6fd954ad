package paths_test

import (
	"bytes"
	"crypto/sha256"
	"encoding/hex"
	"math"
	"math/rand"
	"slices"
	"testing"

	"almoner/api"
	"almoner/leaves"
	"almoner/paths"
)

// sum is one of all bytes unlike, another one for each number.
func sum(n int) api.Sum { return sha256.Sum256([]byte{byte(n), byte(n >> 8), byte(n >> 16), 's'}) }

// list is so many sums, no two the same.
func list(n int) []api.Sum {
	l := make([]api.Sum, n)
	for i := range l {
		l[i] = sum(i)
	}
	return l
}

// wantedNode is a node's sum by the document's words.
func wantedNode(l, r api.Sum) api.Sum {
	return sha256.Sum256(slices.Concat([]byte{1}, l[:], r[:]))
}

// less is the greatest power of two that is less than so many, two at least.
func less(size uint64) uint64 {
	k := uint64(1)
	for k < size-k {
		k *= 2
	}
	return k
}

// wantedRoot is the root of all by the document's words.
func wantedRoot(l []api.Sum) api.Sum {
	switch len(l) {
	case 0:
		return sha256.Sum256(nil)
	case 1:
		return l[0]
	}
	k := less(uint64(len(l)))
	return wantedNode(wantedRoot(l[:k]), wantedRoot(l[k:]))
}

// wantedPath is the path of a leaf that there is, by the document's words.
func wantedPath(l []api.Sum, at int) []api.Sum {
	if len(l) == 1 {
		return nil
	}
	k := int(less(uint64(len(l))))
	if at < k {
		return append(wantedPath(l[:k], at), wantedRoot(l[k:]))
	}
	return append(wantedPath(l[k:], at-k), wantedRoot(l[:k]))
}

// taken is how many sums are taken of a path, by the document's words.
func taken(at, size uint64) int {
	switch {
	case size == 1:
		return 0
	case at < less(size):
		return taken(at, less(size)) + 1
	}
	return taken(at-less(size), size-less(size)) + 1
}

// wantedEnd is what a path of just as many sums as are taken leads to, by the document's words.
func wantedEnd(leaf api.Sum, at, size uint64, path []api.Sum) api.Sum {
	if size == 1 {
		return leaf
	}
	k, last := less(size), len(path)-1
	if at < k {
		return wantedNode(wantedEnd(leaf, at, k, path[:last]), path[last])
	}
	return wantedNode(path[last], wantedEnd(leaf, at-k, size-k, path[:last]))
}

// upward is what a path leads to by the words of RFC 9162, 2.1.3.2, from the leaf upward; false if it has not just as many sums as are taken.
func upward(leaf api.Sum, at, size uint64, path []api.Sum) (api.Sum, bool) {
	last := size - 1
	for _, s := range path {
		if last == 0 {
			return leaf, false
		}
		if at%2 == 1 || at == last {
			leaf = wantedNode(s, leaf)
			for at%2 == 0 && at != 0 {
				at, last = at/2, last/2
			}
		} else {
			leaf = wantedNode(leaf, s)
		}
		at, last = at/2, last/2
	}
	return leaf, last == 0
}

// of is the path of a leaf that there is.
func of(t *testing.T, l []api.Sum, at int) []api.Sum {
	t.Helper()
	path, e := paths.Of(l, at)
	if e != api.OK {
		t.Fatalf("Of(%d sums, %d): %v", len(l), at, e)
	}
	return path
}

// letBe fails the test if Check answers otherwise than is wanted.
func letBe(t *testing.T, want bool, leaf api.Sum, at, size uint64, path []api.Sum, root api.Sum) {
	t.Helper()
	if got := paths.Check(leaf, at, size, path, root); got != want {
		t.Errorf("Check(%x, %d, %d, %d sums, %x) = %v", leaf[:3], at, size, len(path), root[:3], got)
	}
}

// digits is a sum of its digits of 16.
func digits(t *testing.T, text string) api.Sum {
	t.Helper()
	b, err := hex.DecodeString(text)
	if err != nil || len(b) != len(api.Sum{}) {
		t.Fatalf("%q is no sum", text)
	}
	return api.Sum(b)
}

// edges are numbers of leaves round each power of two, up to some thousand.
func edges() []int {
	out := []int{1, 2, 3}
	for power := 4; power <= 1<<10; power *= 2 {
		out = append(out, power-1, power, power+1)
	}
	return out
}

// P10.1: what the document tells of one leaf and of three.
func TestOfFew(t *testing.T) {
	a, b, c := sum(1), sum(2), sum(3)
	for _, one := range []struct {
		l    []api.Sum
		at   int
		want []api.Sum
		e    api.Errno
	}{
		{[]api.Sum{a, b, c}, 0, []api.Sum{b, c}, api.OK},
		{[]api.Sum{a, b, c}, 1, []api.Sum{a, c}, api.OK},
		{[]api.Sum{a, b, c}, 2, []api.Sum{leaves.Node(a, b)}, api.OK},
		{[]api.Sum{a, b}, 0, []api.Sum{b}, api.OK},
		{[]api.Sum{a, b}, 1, []api.Sum{a}, api.OK},
		{[]api.Sum{a}, 0, nil, api.OK},
		{[]api.Sum{a}, 1, nil, api.ErrArg},
	} {
		got, e := paths.Of(one.l, one.at)
		if e != one.e || !slices.Equal(got, one.want) {
			t.Errorf("Of(%d sums, %d) = %x, %v, not %x, %v", len(one.l), one.at, got, e, one.want, one.e)
		}
	}
}

// P10.1: ErrArg at each place where no leaf is, and no path.
func TestOfNoSuchLeaf(t *testing.T) {
	for _, n := range append(edges(), 0) {
		for _, at := range []int{-1, -2, -n, -n - 1, n, n + 1, 2*n + 1, math.MinInt, math.MinInt + 1, math.MinInt32, math.MaxInt32, math.MaxInt, 1 << 32, 1 << 62} {
			if at >= 0 && at < n {
				continue
			}
			if path, e := paths.Of(list(n), at); e != api.ErrArg || path != nil {
				t.Errorf("Of(%d sums, %d) = %x, %v", n, at, path, e)
			}
		}
	}
	for _, none := range [][]api.Sum{nil, {}, make([]api.Sum, 0, 5)} {
		if path, e := paths.Of(none, 0); e != api.ErrArg || path != nil {
			t.Errorf("Of(no sums, 0) = %x, %v", path, e)
		}
	}
}

// P10.1: each place of each number of leaves.
func TestOfEach(t *testing.T) {
	for n := 1; n <= 100; n++ {
		l := list(n)
		for at := range n {
			if got, want := of(t, l, at), wantedPath(l, at); !slices.Equal(got, want) {
				t.Errorf("Of(%d sums, %d) = %x, not %x", n, at, got, want)
			}
		}
	}
}

// P10.1, R1: many leaves: the first places, the last ones, and those round each power of two.
func TestOfMany(t *testing.T) {
	all := list(1<<13 + 1)
	for _, n := range append(edges(), 1<<13-1, 1<<13, 1<<13+1) {
		l := all[:n]
		for at := 1; at < n; at *= 4 {
			for _, place := range []int{0, at - 1, at, n - at, n - 1} {
				if got, want := of(t, l, place), wantedPath(l, place); !slices.Equal(got, want) {
					t.Errorf("Of(%d sums, %d) = %x, not %x", n, place, got, want)
				}
			}
		}
	}
}

// P10.1: leaves that are all the same.
func TestOfTheSame(t *testing.T) {
	for _, one := range []api.Sum{{}, sum(7)} {
		for n := 1; n < 40; n++ {
			l := slices.Repeat([]api.Sum{one}, n)
			for at := range n {
				path := of(t, l, at)
				if !slices.Equal(path, wantedPath(l, at)) {
					t.Errorf("Of(%d sums, %d) = %x", n, at, path)
				}
				letBe(t, true, one, uint64(at), uint64(n), path, wantedRoot(l))
			}
		}
	}
}

// P10.1, P10.2: the paths that logs of RFC 6962 are tested by.
func TestKnown(t *testing.T) {
	var l, roots []api.Sum
	for _, c := range []struct{ entry, root string }{
		{"", "6e340b9cffb37a989ca544e6bb780a2c78901d3fb33738768511a30617afa01d"},
		{"00", "fac54203e7cc696cf0dfcb42c92a1d9dbaf70ad9e621f4bd8d98662f00e3c125"},
		{"10", "aeb6bcfe274b70a14fb067a5e5578264db0fa9b51af5e0ba159158f329e06e77"},
		{"2021", "d37ee418976dd95753c1c73862b9398fa2a2cf9b4ff0fdfe8b30cd95209614b7"},
		{"3031", "4e3bbb1f7b478dcfe71fb631631519a3bca12c9aefca1612bfce4c13a86264d4"},
		{"40414243", "76e67dadbcdf1e10e1b74ddc608abd2f98dfb16fbce75277b5232a127f2087ef"},
		{"5051525354555657", "ddb89be403809e325750d3d263cd78929c2942b7942a34b77e122c9594a74c8c"},
		{"606162636465666768696a6b6c6d6e6f", "5dc9da79a70659a9ad559cb701ded9a2ab9d823aad2f4960cfe370eff4604328"},
	} {
		b, err := hex.DecodeString(c.entry)
		if err != nil {
			t.Fatal(err)
		}
		l = append(l, leaves.Leaf(b))
		roots = append(roots, digits(t, c.root))
	}
	for _, c := range []struct {
		at, size int
		path     []string
	}{
		{0, 1, nil},
		{0, 8, []string{"96a296d224f285c67bee93c30f8a309157f0daa35dc5b87e410b78630a09cfc7", "5f083f0a1a33ca076a95279832580db3e0ef4584bdff1f54c8a360f50de3031e", "6b47aaf29ee3c2af9af889bc1fb9254dabd31177f16232dd6aab035ca39bf6e4"}},
		{5, 8, []string{"bc1a0643b12e4d2d7c77918f44e0f4f79a838b6cf9ec5b5c283e1f4d88599e6b", "ca854ea128ed050b41b35ffc1b87b8eb2bde461e9e3b5596ece6b9d5975a0ae0", "d37ee418976dd95753c1c73862b9398fa2a2cf9b4ff0fdfe8b30cd95209614b7"}},
		{2, 3, []string{"fac54203e7cc696cf0dfcb42c92a1d9dbaf70ad9e621f4bd8d98662f00e3c125"}},
		{1, 5, []string{"6e340b9cffb37a989ca544e6bb780a2c78901d3fb33738768511a30617afa01d", "5f083f0a1a33ca076a95279832580db3e0ef4584bdff1f54c8a360f50de3031e", "bc1a0643b12e4d2d7c77918f44e0f4f79a838b6cf9ec5b5c283e1f4d88599e6b"}},
	} {
		var path []api.Sum
		for _, text := range c.path {
			path = append(path, digits(t, text))
		}
		if got := of(t, l[:c.size], c.at); !slices.Equal(got, path) {
			t.Errorf("Of(%d sums, %d) = %x", c.size, c.at, got)
		}
		letBe(t, true, l[c.at], uint64(c.at), uint64(c.size), path, roots[c.size-1])
	}
}

// P10.2: what the document tells of one leaf and of three.
func TestCheckFew(t *testing.T) {
	a, b, c := sum(1), sum(2), sum(3)
	ab := leaves.Node(a, b)
	abc := leaves.Node(ab, c)
	letBe(t, true, c, 2, 3, []api.Sum{ab}, abc)
	letBe(t, true, a, 0, 1, nil, a)
	letBe(t, true, a, 0, 1, []api.Sum{}, a)
	letBe(t, false, a, 1, 1, nil, a)
	letBe(t, true, a, 0, 3, []api.Sum{b, c}, abc)
	letBe(t, true, b, 1, 3, []api.Sum{a, c}, abc)
	letBe(t, false, a, 0, 3, []api.Sum{c, b}, abc)
	letBe(t, false, a, 1, 3, []api.Sum{b, c}, abc)
	letBe(t, false, a, 0, 1, nil, b)
	letBe(t, false, a, 0, 1, []api.Sum{b}, a)
	letBe(t, false, a, 0, 1, []api.Sum{b}, ab)
	letBe(t, false, a, 0, 2, nil, a)
}

// P10.2: no size that is not above the place, whatever the path is, though it would lead to the root.
func TestCheckAtBelowSize(t *testing.T) {
	a, b := sum(1), sum(2)
	for _, at := range []uint64{0, 1, 2, 3, 4, 7, 8, 1 << 31, 1 << 32, 1<<63 - 1, 1 << 63, 1<<63 + 1, math.MaxUint64 - 1, math.MaxUint64} {
		for _, size := range []uint64{0, 1, 2, 3, 4, 7, 8, 1 << 31, 1 << 32, 1<<63 - 1, 1 << 63, 1<<63 + 1, math.MaxUint64 - 1, math.MaxUint64} {
			if at < size {
				continue
			}
			for many := range 66 {
				path := list(many)
				letBe(t, false, a, at, size, path, a)
				letBe(t, false, a, at, size, path, api.Sum{})
				letBe(t, false, a, at, size, path, leaves.Root(nil))
			}
			letBe(t, false, a, at, size, []api.Sum{b}, leaves.Node(a, b))
			letBe(t, false, a, at, size, []api.Sum{b}, leaves.Node(b, a))
			letBe(t, false, a, at, size, nil, a)
		}
	}
	for size := uint64(1); size < 70; size++ {
		for at := size; at < 140; at++ {
			// By the words alone, a place that is too great leads to where the last place leads.
			path := list(taken(size-1, size))
			letBe(t, false, a, at, size, path, wantedEnd(a, size-1, size, path))
		}
	}
}

// variants is what a path is otherwise: one more at any place, one fewer, another one in it, two changed, none.
func variants(path []api.Sum) [][]api.Sum {
	var out [][]api.Sum
	for i := range len(path) + 1 {
		for _, more := range []api.Sum{{}, sum(1 << 20)} {
			out = append(out, slices.Insert(slices.Clone(path), i, more))
		}
		out = append(out, slices.Concat(path, list(i+1)))
	}
	for i, s := range path {
		out = append(out, slices.Delete(slices.Clone(path), i, i+1), path[:i], slices.Insert(slices.Clone(path), i, s))
		for bit := 0; bit < 256; bit += 51 {
			other := slices.Clone(path)
			other[i][bit/8] ^= 1 << (bit % 8)
			out = append(out, other)
		}
		if i > 0 && path[i-1] != s {
			other := slices.Clone(path)
			other[i-1], other[i] = s, other[i-1]
			out = append(out, other)
		}
	}
	return out
}

// P10.2: of each place of each number of leaves its path is let be, nothing else.
func TestCheckEach(t *testing.T) {
	for n := 1; n <= 40; n++ {
		l := list(n)
		root := wantedRoot(l)
		for at, leaf := range l {
			place, size := uint64(at), uint64(n)
			path := wantedPath(l, at)
			letBe(t, true, leaf, place, size, path, root)
			for _, other := range variants(path) {
				letBe(t, false, leaf, place, size, other, root)
			}
			for bit := at % 7; bit < 256; bit += 7 {
				other := root
				other[bit/8] ^= 1 << (bit % 8)
				letBe(t, false, leaf, place, size, path, other)
				other = leaf
				other[bit/8] ^= 1 << (bit % 8)
				letBe(t, false, other, place, size, path, root)
			}
			letBe(t, false, leaf, place, size, path, api.Sum{})
		}
	}
}

// P10.2: another place, or another size, of which other sums are taken or others are put together, is not let be.
func TestCheckAnotherPlace(t *testing.T) {
	for n := uint64(1); n <= 13; n++ {
		l := list(int(n))
		root := wantedRoot(l)
		for at := range n {
			path := wantedPath(l, int(at))
			for size := range uint64(35) {
				for place := range uint64(40) {
					want := false
					if place < size && taken(place, size) == len(path) {
						want = wantedEnd(l[at], place, size, path) == root
					}
					letBe(t, want, l[at], place, size, path, root)
				}
			}
		}
	}
}

// P10.2: another size of which the same sums are taken is let be: a path tells no more than the place and what it leads to.
func TestCheckAnotherSize(t *testing.T) {
	l := list(3)
	// The first two of three lie as deep as the first two of four.
	letBe(t, true, l[0], 0, 4, wantedPath(l, 0), wantedRoot(l))
	letBe(t, true, l[1], 1, 4, wantedPath(l, 1), wantedRoot(l))
	letBe(t, false, l[2], 2, 4, wantedPath(l, 2), wantedRoot(l))
}

// great are sizes of all numbers of bits: round each power of two, and between.
func great() []uint64 {
	out := []uint64{1, 2, 3, math.MaxUint64 - 2, math.MaxUint64 - 1, math.MaxUint64}
	random := rand.New(rand.NewSource(10))
	for bit := 2; bit < 64; bit++ {
		power := uint64(1) << bit
		out = append(out, power-1, power, power+1, power|random.Uint64()%power)
	}
	return out
}

// P10.2, R1: sizes and places up to the greatest number of 64 bits.
func TestCheckGreat(t *testing.T) {
	random := rand.New(rand.NewSource(11))
	leaf := sum(1 << 19)
	for _, size := range great() {
		places := []uint64{0, size / 2, size - 1, random.Uint64() % size}
		if size > 1 {
			places = append(places, 1, size-2, less(size)-1, less(size))
		}
		for _, at := range places {
			path := list(taken(at, size))
			root := wantedEnd(leaf, at, size, path)
			if other, whole := upward(leaf, at, size, path); !whole || other != root {
				t.Fatalf("the tests' own words part: at %d of %d", at, size)
			}
			letBe(t, true, leaf, at, size, path, root)
			letBe(t, false, leaf, at, size, append(slices.Clone(path), sum(5)), root)
			letBe(t, false, leaf, at, size, append([]api.Sum{sum(5)}, path...), root)
			letBe(t, false, leaf, at, size, path, leaf2(root))
			if len(path) > 0 {
				letBe(t, false, leaf, at, size, path[1:], root)
				letBe(t, false, leaf, at, size, path[:len(path)-1], root)
				letBe(t, false, leaf, at, size, nil, root)
				letBe(t, false, leaf, at, size, nil, leaf)
				letBe(t, false, leaf, at, size, nil, api.Sum{})
				letBe(t, false, leaf, at, size, path[:len(path)-1], api.Sum{})
			}
		}
	}
}

// leaf2 is another sum than that.
func leaf2(s api.Sum) api.Sum {
	s[31] ^= 1
	return s
}

// P10.2: a path of too few sums is not let be, not even of a root that it leads to on the way, nor of noughts.
func TestCheckTooFew(t *testing.T) {
	leaf := sum(1 << 19)
	for _, size := range great() {
		at := size - 1
		whole := list(taken(at, size))
		for many := range whole {
			few := whole[:many]
			letBe(t, false, leaf, at, size, few, api.Sum{})
			letBe(t, false, leaf, at, size, few, leaf)
			letBe(t, false, leaf, at, size, few, leaves.Root(nil))
			half := leaf
			for _, s := range few {
				half = wantedNode(s, half)
			}
			letBe(t, false, leaf, at, size, few, half)
		}
	}
}

// P10.2, R1: a path of very many sums.
func TestCheckTooMany(t *testing.T) {
	path := list(1 << 16)
	leaf := sum(1 << 19)
	for _, size := range great() {
		for _, at := range []uint64{0, size - 1} {
			letBe(t, false, leaf, at, size, path, wantedEnd(leaf, at, size, path[:taken(at, size)]))
		}
	}
}

// P10.2: any sums of any places, some of the path changed.
func TestCheckAny(t *testing.T) {
	random := rand.New(rand.NewSource(12))
	for range 3000 {
		size := random.Uint64()>>random.Intn(64) | 1
		at := random.Uint64() % size
		var leaf api.Sum
		random.Read(leaf[:])
		path := make([]api.Sum, taken(at, size))
		for i := range path {
			random.Read(path[i][:])
		}
		root := wantedEnd(leaf, at, size, path)
		letBe(t, true, leaf, at, size, path, root)
		if len(path) > 0 {
			path[random.Intn(len(path))][random.Intn(32)] ^= 1 << random.Intn(8)
			letBe(t, false, leaf, at, size, path, root)
		}
	}
}

// P10.2: noughts and the highest bytes are sums as all others.
func TestCheckAnySum(t *testing.T) {
	highest := api.Sum(bytes.Repeat([]byte{255}, 32))
	for _, leaf := range []api.Sum{{}, highest, leaves.Root(nil)} {
		letBe(t, true, leaf, 0, 1, nil, leaf)
		for _, beside := range []api.Sum{{}, highest, leaf} {
			letBe(t, true, leaf, 0, 2, []api.Sum{beside}, wantedNode(leaf, beside))
			letBe(t, true, leaf, 1, 2, []api.Sum{beside}, wantedNode(beside, leaf))
		}
	}
}
