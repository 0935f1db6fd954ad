package links_test

import (
	"bytes"
	"crypto/sha256"
	"encoding/hex"
	"math"
	"math/rand"
	"slices"
	"testing"

	"almoner/api"
	"almoner/leaves"
	"almoner/links"
)

// sum is one of all bytes unlike, another one for each number.
func sum(n int) api.Sum { return sha256.Sum256([]byte{byte(n), byte(n >> 8), byte(n >> 16), 's'}) }

// list is so many sums, no two the same.
func list(n int) []api.Sum {
	l := make([]api.Sum, n)
	for i := range l {
		l[i] = sum(i)
	}
	return l
}

// another is another sum than that.
func another(s api.Sum) api.Sum {
	s[31] ^= 1
	return s
}

// wantedNode is a node's sum by the document's words.
func wantedNode(l, r api.Sum) api.Sum {
	return sha256.Sum256(slices.Concat([]byte{1}, l[:], r[:]))
}

// less is the greatest power of two that is less than so many, two at least.
func less(size uint64) uint64 {
	k := uint64(1)
	for k < size-k {
		k *= 2
	}
	return k
}

// wantedRoot is the root of all by the document's words.
func wantedRoot(l []api.Sum) api.Sum {
	switch len(l) {
	case 0:
		return sha256.Sum256(nil)
	case 1:
		return l[0]
	}
	k := less(uint64(len(l)))
	return wantedNode(wantedRoot(l[:k]), wantedRoot(l[k:]))
}

// wantedLink is the link of the first ones, one at least and no more than all, by the document's words.
func wantedLink(l []api.Sum, from int, edge bool) []api.Sum {
	switch {
	case from == len(l) && edge:
		return nil
	case from == len(l):
		return []api.Sum{wantedRoot(l)}
	}
	k := int(less(uint64(len(l))))
	if from <= k {
		return append(wantedLink(l[:k], from, edge), wantedRoot(l[k:]))
	}
	return append(wantedLink(l[k:], from-k, false), wantedRoot(l[:k]))
}

// taken is how many sums are taken of a link, by the document's words.
func taken(from, size uint64, edge bool) int {
	switch {
	case from == size && edge:
		return 0
	case from == size:
		return 1
	case from <= less(size):
		return taken(from, less(size), edge) + 1
	}
	return taken(from-less(size), size-less(size), false) + 1
}

// pair is an old sum and a new one.
type pair struct{ a, b api.Sum }

// wantedEnds is what a link of just as many sums as are taken leads to, by the document's words.
func wantedEnds(from, size uint64, a api.Sum, edge bool, link []api.Sum) pair {
	last := len(link) - 1
	switch {
	case from == size && edge:
		return pair{a, a}
	case from == size:
		return pair{link[0], link[0]}
	}
	k := less(size)
	if from <= k {
		below := wantedEnds(from, k, a, edge, link[:last])
		return pair{below.a, wantedNode(below.b, link[last])}
	}
	below := wantedEnds(from-k, size-k, a, false, link[:last])
	return pair{wantedNode(link[last], below.a), wantedNode(link[last], below.b)}
}

// wanted is whether a link is let be, by the document's words.
func wanted(from, size uint64, a, b api.Sum, link []api.Sum) bool {
	if from < 1 || from > size || len(link) != taken(from, size, true) {
		return false
	}
	return wantedEnds(from, size, a, true, link) == pair{a, b}
}

// upward is whether a link is let be by the words of RFC 9162, 2.1.4.2, from below upward.
func upward(from, size uint64, a, b api.Sum, link []api.Sum) bool {
	if from == size {
		return len(link) == 0 && a == b
	}
	if from&(from-1) == 0 {
		link = append([]api.Sum{a}, link...)
	}
	if len(link) == 0 {
		return false
	}
	first, last := from-1, size-1
	for first%2 == 1 {
		first, last = first/2, last/2
	}
	one, other := link[0], link[0]
	for _, s := range link[1:] {
		if last == 0 {
			return false
		}
		if first%2 == 1 || first == last {
			one, other = wantedNode(s, one), wantedNode(s, other)
			for first%2 == 0 && first != 0 {
				first, last = first/2, last/2
			}
		} else {
			other = wantedNode(other, s)
		}
		first, last = first/2, last/2
	}
	return last == 0 && one == a && other == b
}

// of is the link of a beginning that there is.
func of(t *testing.T, l []api.Sum, from int) []api.Sum {
	t.Helper()
	link, e := links.Of(l, from)
	if e != api.OK {
		t.Fatalf("Of(%d sums, %d): %v", len(l), from, e)
	}
	return link
}

// letBe fails the test if Check answers otherwise than is wanted.
func letBe(t *testing.T, want bool, from, size uint64, a, b api.Sum, link []api.Sum) {
	t.Helper()
	if got := links.Check(from, size, a, b, link); got != want {
		t.Errorf("Check(%d, %d, %x, %x, %d sums) = %v", from, size, a[:3], b[:3], len(link), got)
	}
}

// digits is a sum of its digits of 16.
func digits(t *testing.T, text string) api.Sum {
	t.Helper()
	b, err := hex.DecodeString(text)
	if err != nil || len(b) != len(api.Sum{}) {
		t.Fatalf("%q is no sum", text)
	}
	return api.Sum(b)
}

// edges are numbers of leaves round each power of two, up to some thousand.
func edges() []int {
	out := []int{1, 2, 3}
	for power := 4; power <= 1<<10; power *= 2 {
		out = append(out, power-1, power, power+1)
	}
	return out
}

// P11.1: what the document tells of three, and what its words tell of up to seven.
func TestOfFew(t *testing.T) {
	l := list(7)
	a, b, c, d, e, f, g := l[0], l[1], l[2], l[3], l[4], l[5], l[6]
	node := leaves.Node
	ab, cd, ef := node(a, b), node(c, d), node(e, f)
	for _, one := range []struct {
		many, from int
		want       []api.Sum
		e          api.Errno
	}{
		{3, 0, nil, api.ErrArg},
		{3, 1, []api.Sum{b, c}, api.OK},
		{3, 2, []api.Sum{c}, api.OK},
		{3, 3, nil, api.OK},
		{3, 4, nil, api.ErrArg},
		{1, 1, nil, api.OK},
		{2, 1, []api.Sum{b}, api.OK},
		{2, 2, nil, api.OK},
		{4, 1, []api.Sum{b, cd}, api.OK},
		{4, 2, []api.Sum{cd}, api.OK},
		{4, 3, []api.Sum{c, d, ab}, api.OK},
		{4, 4, nil, api.OK},
		{5, 4, []api.Sum{e}, api.OK},
		{6, 3, []api.Sum{c, d, ab, ef}, api.OK},
		{6, 5, []api.Sum{e, f, node(ab, cd)}, api.OK},
		{7, 1, []api.Sum{b, cd, node(ef, g)}, api.OK},
		{7, 2, []api.Sum{cd, node(ef, g)}, api.OK},
		{7, 3, []api.Sum{c, d, ab, node(ef, g)}, api.OK},
		{7, 4, []api.Sum{node(ef, g)}, api.OK},
		{7, 5, []api.Sum{e, f, g, node(ab, cd)}, api.OK},
		{7, 6, []api.Sum{ef, g, node(ab, cd)}, api.OK},
		{7, 7, nil, api.OK},
	} {
		got, e := links.Of(l[:one.many], one.from)
		if e != one.e || !slices.Equal(got, one.want) {
			t.Errorf("Of(%d sums, %d) = %x, %v, not %x, %v", one.many, one.from, got, e, one.want, one.e)
		}
	}
}

// P11.1: ErrArg of a beginning of none, of fewer than none, and of more than there are; and no link.
func TestOfNoSuchBeginning(t *testing.T) {
	for _, n := range append(edges(), 0) {
		for _, from := range []int{0, -1, -2, -n, -n - 1, n + 1, n + 2, 2*n + 1, math.MinInt, math.MinInt + 1, math.MinInt32, math.MaxInt32, math.MaxInt - 1, math.MaxInt, 1 << 32, 1<<32 + 1, 1 << 62} {
			if link, e := links.Of(list(n), from); e != api.ErrArg || link != nil {
				t.Errorf("Of(%d sums, %d) = %x, %v", n, from, link, e)
			}
		}
	}
	for _, none := range [][]api.Sum{nil, {}, make([]api.Sum, 0, 5), list(5)[:0]} {
		for from := -1; from <= 2; from++ {
			if link, e := links.Of(none, from); e != api.ErrArg || link != nil {
				t.Errorf("Of(no sums, %d) = %x, %v", from, link, e)
			}
		}
	}
}

// P11.1: each beginning of each number of leaves.
func TestOfEach(t *testing.T) {
	for n := 1; n <= 100; n++ {
		l := list(n)
		for from := 1; from <= n; from++ {
			if got, want := of(t, l, from), wantedLink(l, from, true); !slices.Equal(got, want) {
				t.Errorf("Of(%d sums, %d) = %x, not %x", n, from, got, want)
			}
		}
	}
}

// beginnings are some of those of so many: of one, of powers of two and what is round them, of all but one, of all, of others.
func beginnings(n int) []int {
	out := []int{1, n}
	for power := 1; power <= n; power *= 2 {
		out = append(out, power-1, power, power+1, n-power)
	}
	for from := 5; from < n; from += n/9 + 3 {
		out = append(out, from)
	}
	slices.Sort(out)
	return slices.DeleteFunc(slices.Compact(out), func(from int) bool { return from < 1 || from > n })
}

// P11.1: numbers of leaves round each power of two, and many.
func TestOfMany(t *testing.T) {
	all := list(1<<16 + 1)
	for _, n := range edges() {
		for _, from := range beginnings(n) {
			if got, want := of(t, all[:n], from), wantedLink(all[:n], from, true); !slices.Equal(got, want) {
				t.Errorf("Of(%d sums, %d) = %x, not %x", n, from, got, want)
			}
		}
	}
	for _, n := range []int{1<<16 - 1, 1 << 16, 1<<16 + 1} {
		for _, from := range []int{1, 1<<15 - 1, 1 << 15, 1<<15 + 1, 44444, n - 1, n} {
			if got, want := of(t, all[:n], from), wantedLink(all[:n], from, true); !slices.Equal(got, want) {
				t.Errorf("Of(%d sums, %d) = %x, not %x", n, from, got, want)
			}
		}
	}
}

// P11.1: whatever the sums are: all the same, noughts, the highest bytes.
func TestOfAnySums(t *testing.T) {
	highest := api.Sum(bytes.Repeat([]byte{255}, 32))
	for _, one := range []api.Sum{{}, highest, leaves.Root(nil), sum(7)} {
		for n := 1; n <= 33; n++ {
			l := slices.Repeat([]api.Sum{one}, n)
			for from := 1; from <= n; from++ {
				link := of(t, l, from)
				if !slices.Equal(link, wantedLink(l, from, true)) {
					t.Errorf("Of(%d of the same sum, %d) = %x", n, from, link)
				}
				letBe(t, true, uint64(from), uint64(n), wantedRoot(l[:from]), wantedRoot(l), link)
			}
		}
	}
}

// P11.1, P11.2: the links that logs of RFC 6962 are tested by.
func TestKnown(t *testing.T) {
	var l, roots []api.Sum
	for _, c := range []struct{ entry, root string }{
		{"", "6e340b9cffb37a989ca544e6bb780a2c78901d3fb33738768511a30617afa01d"},
		{"00", "fac54203e7cc696cf0dfcb42c92a1d9dbaf70ad9e621f4bd8d98662f00e3c125"},
		{"10", "aeb6bcfe274b70a14fb067a5e5578264db0fa9b51af5e0ba159158f329e06e77"},
		{"2021", "d37ee418976dd95753c1c73862b9398fa2a2cf9b4ff0fdfe8b30cd95209614b7"},
		{"3031", "4e3bbb1f7b478dcfe71fb631631519a3bca12c9aefca1612bfce4c13a86264d4"},
		{"40414243", "76e67dadbcdf1e10e1b74ddc608abd2f98dfb16fbce75277b5232a127f2087ef"},
		{"5051525354555657", "ddb89be403809e325750d3d263cd78929c2942b7942a34b77e122c9594a74c8c"},
		{"606162636465666768696a6b6c6d6e6f", "5dc9da79a70659a9ad559cb701ded9a2ab9d823aad2f4960cfe370eff4604328"},
	} {
		b, err := hex.DecodeString(c.entry)
		if err != nil {
			t.Fatal(err)
		}
		l = append(l, leaves.Leaf(b))
		roots = append(roots, digits(t, c.root))
	}
	for _, c := range []struct {
		from, size int
		link       []string
	}{
		{1, 1, nil},
		{1, 8, []string{"96a296d224f285c67bee93c30f8a309157f0daa35dc5b87e410b78630a09cfc7", "5f083f0a1a33ca076a95279832580db3e0ef4584bdff1f54c8a360f50de3031e", "6b47aaf29ee3c2af9af889bc1fb9254dabd31177f16232dd6aab035ca39bf6e4"}},
		{6, 8, []string{"0ebc5d3437fbe2db158b9f126a1d118e308181031d0a949f8dededebc558ef6a", "ca854ea128ed050b41b35ffc1b87b8eb2bde461e9e3b5596ece6b9d5975a0ae0", "d37ee418976dd95753c1c73862b9398fa2a2cf9b4ff0fdfe8b30cd95209614b7"}},
		{2, 5, []string{"5f083f0a1a33ca076a95279832580db3e0ef4584bdff1f54c8a360f50de3031e", "bc1a0643b12e4d2d7c77918f44e0f4f79a838b6cf9ec5b5c283e1f4d88599e6b"}},
	} {
		var link []api.Sum
		for _, text := range c.link {
			link = append(link, digits(t, text))
		}
		if got := of(t, l[:c.size], c.from); !slices.Equal(got, link) {
			t.Errorf("Of(%d sums, %d) = %x", c.size, c.from, got)
		}
		letBe(t, true, uint64(c.from), uint64(c.size), roots[c.from-1], roots[c.size-1], link)
	}
}

// P11.2: what the document tells of one leaf and of three.
func TestCheckFew(t *testing.T) {
	a, b, c := sum(1), sum(2), sum(3)
	ab := leaves.Node(a, b)
	abc := leaves.Node(ab, c)
	letBe(t, true, 2, 3, ab, abc, []api.Sum{c})
	letBe(t, true, 1, 1, a, a, nil)
	letBe(t, true, 1, 1, a, a, []api.Sum{})
	letBe(t, false, 0, 1, a, a, nil)
	letBe(t, true, 1, 2, a, ab, []api.Sum{b})
	letBe(t, true, 1, 3, a, abc, []api.Sum{b, c})
	letBe(t, true, 3, 3, abc, abc, nil)
	letBe(t, false, 1, 1, a, b, nil)
	letBe(t, false, 1, 1, a, a, []api.Sum{a})
	letBe(t, false, 1, 1, a, ab, []api.Sum{b})
	letBe(t, false, 2, 1, a, a, nil)
	letBe(t, false, 1, 2, a, a, nil)
	letBe(t, false, 1, 2, a, ab, nil)
	letBe(t, false, 1, 2, ab, a, []api.Sum{b})
	letBe(t, false, 2, 3, abc, ab, []api.Sum{c})
	letBe(t, false, 1, 3, a, abc, []api.Sum{c, b})
	letBe(t, false, 1, 3, a, ab, []api.Sum{b, c})
}

// P11.2: of just all no sum is taken, and both roots must be the same.
func TestCheckAll(t *testing.T) {
	for _, size := range great() {
		for _, a := range []api.Sum{{}, sum(4), leaves.Root(nil)} {
			letBe(t, true, size, size, a, a, nil)
			letBe(t, true, size, size, a, a, []api.Sum{})
			letBe(t, false, size, size, a, another(a), nil)
			letBe(t, false, size, size, another(a), a, nil)
			for many := 1; many < 67; many++ {
				letBe(t, false, size, size, a, a, list(many))
			}
			letBe(t, false, size, size, a, a, []api.Sum{a})
			letBe(t, false, size, size, a, wantedNode(a, a), []api.Sum{a})
			letBe(t, false, size, size, a, another(a), []api.Sum{another(a)})
		}
	}
}

// P11.2: no beginning of none, whatever the sums are, though it be of none, or by the root of no leaves.
func TestCheckOfNone(t *testing.T) {
	a, none := sum(1), leaves.Root(nil)
	for _, size := range append(great(), 0) {
		for many := range 67 {
			link := list(many)
			letBe(t, false, 0, size, a, a, link)
			letBe(t, false, 0, size, none, none, link)
			letBe(t, false, 0, size, none, a, link)
			letBe(t, false, 0, size, api.Sum{}, api.Sum{}, link)
			letBe(t, false, 0, size, api.Sum{}, a, link)
			if many > 0 {
				letBe(t, false, 0, size, none, link[0], link)
				letBe(t, false, 0, size, link[0], link[0], link)
			}
		}
	}
	for n := 1; n < 20; n++ {
		l := list(n)
		for from := 1; from <= n; from++ {
			letBe(t, false, 0, uint64(n), none, wantedRoot(l), wantedLink(l, from, true))
			letBe(t, false, 0, uint64(n), wantedRoot(l[:from]), wantedRoot(l), wantedLink(l, from, true))
		}
	}
}

// P11.2: no beginning of more than there are, whatever the sums are.
func TestCheckFromAboveSize(t *testing.T) {
	a, none := sum(1), leaves.Root(nil)
	for _, from := range great() {
		for _, size := range append(great(), 0) {
			if from <= size {
				continue
			}
			for _, many := range []int{0, 1, 2, 3, 63, 64, 65} {
				link := list(many)
				letBe(t, false, from, size, a, a, link)
				letBe(t, false, from, size, none, none, link)
				letBe(t, false, from, size, api.Sum{}, api.Sum{}, link)
			}
		}
	}
	for size := uint64(1); size < 40; size++ {
		l := list(int(size))
		root := wantedRoot(l)
		for from := uint64(1); from <= size; from++ {
			link := wantedLink(l, int(from), true)
			for more := from; more < 80; more++ {
				if more > size {
					letBe(t, false, more, size, wantedRoot(l[:from]), root, link)
					letBe(t, false, more, size, root, root, link)
				}
			}
			// Turned round: all are no beginning of fewer.
			if from < size {
				letBe(t, false, size, from, root, wantedRoot(l[:from]), link)
				letBe(t, false, size, from, wantedRoot(l[:from]), root, link)
			}
		}
	}
}

// variants is what a link is otherwise: one more at any place, one fewer, another one in it, two changed, turned, none.
func variants(link []api.Sum) [][]api.Sum {
	out := [][]api.Sum{nil, append(slices.Clone(link), link...)}
	for i := range len(link) + 1 {
		for _, more := range []api.Sum{{}, sum(1 << 20)} {
			out = append(out, slices.Insert(slices.Clone(link), i, more))
		}
		out = append(out, slices.Concat(link, list(i+1)))
	}
	for i, s := range link {
		out = append(out, slices.Delete(slices.Clone(link), i, i+1), link[:i], slices.Insert(slices.Clone(link), i, s))
		for bit := i % 3; bit < 256; bit += 51 {
			other := slices.Clone(link)
			other[i][bit/8] ^= 1 << (bit % 8)
			out = append(out, other)
		}
		if i > 0 {
			other := slices.Clone(link)
			other[i-1], other[i] = s, other[i-1]
			out = append(out, other)
		}
	}
	turned := slices.Clone(link)
	slices.Reverse(turned)
	return append(out, turned)
}

// P11.2: of each beginning of each number of leaves its link is let be, nothing else.
func TestCheckEach(t *testing.T) {
	for n := 1; n <= 36; n++ {
		l := list(n)
		b, size := wantedRoot(l), uint64(n)
		for from := uint64(1); from <= size; from++ {
			a := wantedRoot(l[:from])
			link := wantedLink(l, int(from), true)
			letBe(t, true, from, size, a, b, link)
			for _, other := range variants(link) {
				letBe(t, slices.Equal(other, link), from, size, a, b, other)
			}
		}
	}
}

// P11.2: the two roots changed for one another, or another one in the place of either, or of both.
func TestCheckOtherRoots(t *testing.T) {
	for n := 1; n <= 24; n++ {
		l := list(n)
		b, size := wantedRoot(l), uint64(n)
		for from := uint64(1); from <= size; from++ {
			a := wantedRoot(l[:from])
			link := wantedLink(l, int(from), true)
			for bit := int(from) % 7; bit < 256; bit += 7 {
				one, other := a, b
				one[bit/8] ^= 1 << (bit % 8)
				other[bit/8] ^= 1 << (bit % 8)
				letBe(t, false, from, size, one, b, link)
				letBe(t, false, from, size, a, other, link)
				// With just all, two roots that are the same are let be, whatever they are.
				letBe(t, from == size, from, size, one, other, link)
			}
			letBe(t, from == size, from, size, b, a, link)
			letBe(t, from == size, from, size, a, a, link)
			letBe(t, from == size, from, size, b, b, link)
			letBe(t, false, from, size, api.Sum{}, b, link)
			letBe(t, false, from, size, a, api.Sum{}, link)
			for other := 1; other <= n; other++ {
				letBe(t, other == int(from), from, size, wantedRoot(l[:other]), b, link)
				letBe(t, other == n, from, size, a, wantedRoot(l[:other]), link)
			}
		}
	}
}

// P11.2: another beginning, or another size, is let be just if as many sums are taken and these lead to both roots.
func TestCheckAnotherBeginning(t *testing.T) {
	for n := uint64(1); n <= 11; n++ {
		l := list(int(n))
		b := wantedRoot(l)
		for own := uint64(1); own <= n; own++ {
			a := wantedRoot(l[:own])
			link := wantedLink(l, int(own), true)
			for size := range uint64(35) {
				for from := range uint64(37) {
					letBe(t, wanted(from, size, a, b, link), from, size, a, b, link)
				}
			}
		}
	}
}

// P11.2: another size of which the same sums are taken is let be: a link tells no more than what it leads to.
func TestCheckAnotherSize(t *testing.T) {
	l := list(3)
	// Behind the first two of three there is one sum, as there is behind the first two of four.
	letBe(t, true, 2, 4, wantedRoot(l[:2]), wantedRoot(l), wantedLink(l, 2, true))
	letBe(t, true, 1, 4, wantedRoot(l[:1]), wantedRoot(l), wantedLink(l, 1, true))
	letBe(t, false, 3, 4, wantedRoot(l), wantedRoot(l), wantedLink(l, 3, true))
}

// great are sizes of all numbers of bits: round each power of two, and between.
func great() []uint64 {
	out := []uint64{1, 2, 3, math.MaxUint64 - 2, math.MaxUint64 - 1, math.MaxUint64}
	random := rand.New(rand.NewSource(11))
	for bit := 2; bit < 64; bit++ {
		power := uint64(1) << bit
		out = append(out, power-1, power, power+1, power|random.Uint64()%power)
	}
	return out
}

// greatBeginnings are some of those of so many: of one, of a power of two, of what is round it, of all but one, of all, of any.
func greatBeginnings(size uint64, random *rand.Rand) []uint64 {
	out := []uint64{1, size}
	if size > 1 {
		k := less(size)
		out = append(out, 2, size-1, size/2, k, random.Uint64()%size+1, random.Uint64()%size+1)
		if size > 3 {
			out = append(out, 3, size-2, k-1, k+1, k/2, size-k, size-size%8)
		}
	}
	slices.Sort(out)
	return slices.DeleteFunc(slices.Compact(out), func(from uint64) bool { return from < 1 || from > size })
}

// places are some of so many: all of few, else the first two, the last two, and one between.
func places(many int) []int {
	if many < 6 {
		return []int{0, 1, 2, 3, 4}[:min(many, 5)]
	}
	return []int{0, 1, many / 2, many - 2, many - 1}
}

// P11.2, R1: sizes and beginnings up to the greatest number of 64 bits.
func TestCheckGreat(t *testing.T) {
	random := rand.New(rand.NewSource(12))
	for _, size := range great() {
		for _, from := range greatBeginnings(size, random) {
			a, link := sum(1<<19), list(taken(from, size, true))
			to := wantedEnds(from, size, a, true, link)
			// Where the old one is not handed on, it is what the link leads to.
			a = to.a
			if !upward(from, size, a, to.b, link) {
				t.Fatalf("the tests' own words part: the first %d of %d", from, size)
			}
			letBe(t, true, from, size, a, to.b, link)
			letBe(t, false, from, size, another(a), to.b, link)
			letBe(t, false, from, size, a, another(to.b), link)
			letBe(t, from == size, from, size, to.b, a, link)
			letBe(t, false, from, size, a, to.b, append(slices.Clone(link), sum(5)))
			letBe(t, false, from, size, a, to.b, append([]api.Sum{sum(5)}, link...))
			for _, i := range places(len(link)) {
				other := slices.Clone(link)
				other[i] = another(other[i])
				letBe(t, false, from, size, a, to.b, other)
				letBe(t, false, from, size, a, to.b, slices.Delete(slices.Clone(link), i, i+1))
			}
			if len(link) > 0 {
				letBe(t, false, from, size, a, to.b, nil)
				letBe(t, false, from, size, a, a, nil)
			}
		}
	}
}

// soFar is what the first sums of a link lead to, by the document's words, none of them first, all of them last.
func soFar(from, size uint64, a api.Sum, edge bool, link []api.Sum) []pair {
	last := len(link) - 1
	switch {
	case from == size && edge:
		return []pair{{a, a}}
	case from == size:
		return []pair{{}, {link[0], link[0]}}
	}
	k := less(size)
	if from <= k {
		below := soFar(from, k, a, edge, link[:last])
		end := below[len(below)-1]
		return append(below, pair{end.a, wantedNode(end.b, link[last])})
	}
	below := soFar(from-k, size-k, a, false, link[:last])
	end := below[len(below)-1]
	return append(below, pair{wantedNode(link[last], end.a), wantedNode(link[last], end.b)})
}

// P11.2: a link of too few sums is not let be, not even of roots that it leads to on the way, or with noughts where a sum is missing.
func TestCheckTooFew(t *testing.T) {
	random := rand.New(rand.NewSource(13))
	for _, size := range great() {
		for _, from := range greatBeginnings(size, random) {
			a := sum(1 << 19)
			whole := list(taken(from, size, true))
			steps := soFar(from, size, a, true, whole)
			for _, many := range places(len(whole)) {
				few := whole[:many]
				on := steps[many]
				letBe(t, false, from, size, on.a, on.b, few)
				letBe(t, false, from, size, a, on.b, few)
				letBe(t, false, from, size, a, a, few)
				letBe(t, false, from, size, api.Sum{}, api.Sum{}, few)
				for _, left := range [][]api.Sum{whole[many:], make([]api.Sum, len(whole)-many), slices.Repeat([]api.Sum{a}, len(whole)-many)} {
					to := wantedEnds(from, size, a, true, slices.Concat(few, left))
					letBe(t, false, from, size, to.a, to.b, few)
				}
			}
			if to := steps[len(whole)]; len(steps) != len(whole)+1 || to != wantedEnds(from, size, a, true, whole) {
				t.Fatalf("the tests' own words part: the first %d of %d", from, size)
			}
		}
	}
}

// P11.2, R1: a link of too many sums, some or very many, is not let be, not even of roots that it would lead to one step farther.
func TestCheckTooMany(t *testing.T) {
	random := rand.New(rand.NewSource(14))
	all := list(1 << 16)
	for _, size := range great() {
		for _, from := range greatBeginnings(size, random) {
			many := taken(from, size, true)
			to := wantedEnds(from, size, sum(1<<19), true, all[:many])
			letBe(t, true, from, size, to.a, to.b, all[:many])
			for _, more := range []int{1, 2, 64, 1<<16 - many} {
				letBe(t, false, from, size, to.a, to.b, all[:many+more])
			}
			next := all[many]
			letBe(t, false, from, size, to.a, wantedNode(to.b, next), all[:many+1])
			letBe(t, false, from, size, wantedNode(next, to.a), wantedNode(next, to.b), all[:many+1])
			first := append([]api.Sum{to.a}, all[:many]...)
			letBe(t, false, from, size, to.a, to.b, first)
		}
	}
}

// P11.2: of sizes of few leaves each number of sums, held against the document's words and against those of RFC 9162.
func TestCheckEachNumberOfSums(t *testing.T) {
	for size := uint64(1); size <= 34; size++ {
		for from := uint64(1); from <= size; from++ {
			for many := range 9 {
				link := list(many)
				to := pair{sum(1 << 19), sum(1 << 18)}
				if many == taken(from, size, true) {
					to = wantedEnds(from, size, to.a, true, link)
				}
				want := wanted(from, size, to.a, to.b, link)
				if want != upward(from, size, to.a, to.b, link) || want != (many == taken(from, size, true)) {
					t.Fatalf("the tests' own words part: the first %d of %d, by %d sums", from, size, many)
				}
				letBe(t, want, from, size, to.a, to.b, link)
			}
		}
	}
}

// P11.2: any sums of any beginnings, one of the sums or of the roots changed.
func TestCheckAny(t *testing.T) {
	random := rand.New(rand.NewSource(15))
	for range 3000 {
		size := random.Uint64()>>random.Intn(64) | 1
		from := random.Uint64()%size + 1
		var a api.Sum
		random.Read(a[:])
		link := make([]api.Sum, taken(from, size, true))
		for i := range link {
			random.Read(link[i][:])
		}
		to := wantedEnds(from, size, a, true, link)
		letBe(t, true, from, size, to.a, to.b, link)
		at, bit := random.Intn(32), byte(1)<<random.Intn(8)
		one, other := to.a, to.b
		one[at] ^= bit
		other[at] ^= bit
		letBe(t, false, from, size, one, to.b, link)
		letBe(t, false, from, size, to.a, other, link)
		if len(link) > 0 {
			link[random.Intn(len(link))][at] ^= bit
			letBe(t, false, from, size, to.a, to.b, link)
		}
	}
}

// P11.2: noughts and the highest bytes are sums as all others.
func TestCheckAnySum(t *testing.T) {
	highest := api.Sum(bytes.Repeat([]byte{255}, 32))
	for _, a := range []api.Sum{{}, highest, leaves.Root(nil)} {
		letBe(t, true, 1, 1, a, a, nil)
		for _, s := range []api.Sum{{}, highest, a} {
			letBe(t, true, 1, 2, a, wantedNode(a, s), []api.Sum{s})
			letBe(t, false, 1, 2, a, wantedNode(a, s), nil)
			letBe(t, true, 2, 3, a, wantedNode(a, s), []api.Sum{s})
			for _, other := range []api.Sum{{}, highest, a} {
				link := []api.Sum{s, other, a}
				letBe(t, true, 3, 4, wantedNode(a, s), wantedNode(a, wantedNode(s, other)), link)
				letBe(t, false, 3, 4, wantedNode(a, s), wantedNode(a, wantedNode(s, other)), link[:2])
			}
		}
	}
}
