package clashes_test

import (
	"bytes"
	"math"
	"math/rand"
	"slices"
	"strconv"
	"testing"

	"almoner/api"
	"almoner/clashes"
	"almoner/leaves"
	"almoner/links"
	"almoner/paths"
	"almoner/shas"
)

// entry is one of no bytes, or of a few, another one for each number.
func entry(n int) []byte {
	if n == 0 {
		return nil
	}
	return []byte("entry " + strconv.Itoa(n))
}

// list is so many entries, no two the same.
func list(many int) [][]byte {
	l := make([][]byte, many)
	for i := range l {
		l[i] = entry(i)
	}
	return l
}

// with is the list with that entry at a place.
func with(l [][]byte, at int, b []byte) [][]byte {
	l = slices.Clone(l)
	l[at] = b
	return l
}

// sum is any one, another one for each number.
func sum(n int) api.Sum {
	var s api.Sum
	copy(s[:], strconv.Itoa(n))
	return s
}

// withSum is the list of sums with that one at a place.
func withSum(l []api.Sum, at int, s api.Sum) []api.Sum {
	l = slices.Clone(l)
	l[at] = s
	return l
}

// sums are those of the leaves.
func sums(l [][]byte) []api.Sum {
	var out []api.Sum
	for _, b := range l {
		out = append(out, leaves.Leaf(b))
	}
	return out
}

func rootOf(l [][]byte) api.Sum { return leaves.Root(sums(l)) }

func pathOf(l [][]byte, at int) []api.Sum {
	path, _ := paths.Of(sums(l), at)
	return path
}

func linkOf(l [][]byte, from int) []api.Sum {
	link, _ := links.Of(sums(l), from)
	return link
}

func same(a, b [][]byte) bool { return slices.EqualFunc(a, b, bytes.Equal) }

func begins(a, b [][]byte) bool { return len(a) <= len(b) && same(a, b[:len(a)]) }

// letPath is whether b is let be at a place of l, by that path.
func letPath(l [][]byte, at int, b []byte, path []api.Sum) bool {
	return at >= 0 && at < len(l) && paths.Check(leaves.Leaf(b), uint64(at), uint64(len(l)), path, rootOf(l))
}

// letLink is whether a is let be as a beginning of b, by that link.
func letLink(a, b [][]byte, link []api.Sum) bool {
	return links.Check(uint64(len(a)), uint64(len(b)), rootOf(a), rootOf(b), link)
}

// tells fails the test if not just that is told that is wanted: a clash and true, or none and false.
func tells(t *testing.T, what string, c api.Clash, told, want bool) {
	t.Helper()
	switch {
	case told != want:
		t.Errorf("%s: %v, not %v", what, told, want)
	case !told && len(c.A)+len(c.B) > 0:
		t.Errorf("%s: with false %x and %x are told", what, c.A, c.B)
	case told && (bytes.Equal(c.A, c.B) || shas.Of(c.A) != shas.Of(c.B)):
		t.Errorf("%s: %x and %x are no clash", what, c.A, c.B)
	}
}

// isClash fails the test if Is answers otherwise than the document asks, and is whether that is a clash.
func isClash(t *testing.T, a, b []byte) bool {
	t.Helper()
	want := !bytes.Equal(a, b) && shas.Of(a) == shas.Of(b)
	if got := clashes.Is(api.Clash{A: a, B: b}); got != want {
		t.Errorf("Is(%d bytes, %d bytes) = %v", len(a), len(b), got)
	}
	return want
}

// ofLists fails the test if Lists answers otherwise than the document asks, and is whether there is a clash.
func ofLists(t *testing.T, a, b [][]byte) bool {
	t.Helper()
	want := len(a) == len(b) && !same(a, b) && rootOf(a) == rootOf(b)
	c, told := clashes.Lists(a, b)
	tells(t, "Lists of "+strconv.Itoa(len(a))+" and "+strconv.Itoa(len(b)), c, told, want)
	return want
}

// ofPath likewise of Path.
func ofPath(t *testing.T, l [][]byte, at int, b []byte, path []api.Sum) bool {
	t.Helper()
	want := letPath(l, at, b, path) && !bytes.Equal(l[at], b)
	c, told := clashes.Path(l, at, b, path)
	tells(t, "Path of the place "+strconv.Itoa(at)+" of "+strconv.Itoa(len(l)), c, told, want)
	return want
}

// ofLink likewise of Link.
func ofLink(t *testing.T, a, b [][]byte, link []api.Sum) bool {
	t.Helper()
	want := len(a) > 0 && len(b) >= len(a) && letLink(a, b, link) && !begins(a, b)
	c, told := clashes.Link(a, b, link)
	tells(t, "Link of the first "+strconv.Itoa(len(a))+" of "+strconv.Itoa(len(b)), c, told, want)
	return want
}

// asked fails the test if there is a clash where this test wants none, or the other way, and counts it.
func asked(t *testing.T, clash, want bool) int {
	t.Helper()
	if clash != want {
		t.Errorf("there is a clash: %v; this test wants it to be %v", clash, want)
	}
	if clash {
		return 1
	}
	return 0
}

// seen fails the test if a test over weak sums met no clash, or one over those of package shas did.
func seen(t *testing.T, clashes int) {
	t.Helper()
	if (clashes > 0) != (weak != "") {
		t.Errorf("there were %d clashes", clashes)
	}
}

// tries are as many as find, over weak sums, one of a kind that is there; over those of package shas none finds any.
func tries(t *testing.T) int {
	t.Helper()
	if weak == "" {
		return 2
	}
	return 16 << bitsLeft(t)
}

// first is the first number from 1 on for which that is so, and whether there is one, as far as is tried.
func first(t *testing.T, is func(n int) bool) (int, bool) {
	t.Helper()
	most := tries(t)
	for n := 1; n <= most; n++ {
		if is(n) {
			return n, true
		}
	}
	return most, false
}

// forged is the list with another entry at a place, such that it is let be.
func forged(t *testing.T, l [][]byte, at int, let func(l [][]byte) bool) ([][]byte, bool) {
	t.Helper()
	n, found := first(t, func(n int) bool { return let(with(l, at, entry(n+5000))) })
	return with(l, at, entry(n+5000)), found
}

// forgedSum is the list of sums with another one at a place, such that it is let be.
func forgedSum(t *testing.T, l []api.Sum, at int, let func(l []api.Sum) bool) ([]api.Sum, bool) {
	t.Helper()
	n, found := first(t, func(n int) bool { return let(withSum(l, at, sum(n))) })
	return withSum(l, at, sum(n)), found
}

// numbers of entries: each one of few, and round powers of two.
func numbers() []int {
	return []int{1, 2, 3, 4, 5, 6, 7, 8, 9, 11, 13, 15, 16, 17, 31, 32, 33}
}

// places are the first two, some in the midst, and the last two of so many.
func places(many int) []int {
	var out []int
	for _, at := range []int{0, 1, many / 3, many / 2, many - many/4, many - 2, many - 1} {
		if at >= 0 && at < many {
			out = append(out, at)
		}
	}
	slices.Sort(out)
	return slices.Compact(out)
}

// texts are lists of bytes: none, a few, and round the ends of SHA-256's blocks; some are alike but for one bit, one byte, or the last one.
func texts() [][]byte {
	out := [][]byte{nil, {}, {0}, {1}, {0, 0}, {0, 1}, {1, 0}, []byte("a"), []byte("b"), []byte("ab")}
	for _, many := range []int{31, 32, 33, 55, 56, 63, 64, 65, 128, 1000} {
		noughts := make([]byte, many)
		last := slices.Clone(noughts)
		last[many-1] = 1
		front := slices.Clone(noughts)
		front[0] = 128
		out = append(out, noughts, last, front)
	}
	return out
}

// P13.1, P13.2, P13.3, P13.4: what the document tells of a and b.
func TestExamples(t *testing.T) {
	a, b, c := []byte("a"), []byte("b"), []byte("c")
	if clashes.Is(api.Clash{A: a, B: []byte("a")}) {
		t.Error("a and a are a clash")
	}
	isClash(t, a, b)
	asked(t, ofLists(t, [][]byte{a, b}, [][]byte{a, b}), false)
	asked(t, ofPath(t, [][]byte{a, b}, 0, a, []api.Sum{leaves.Leaf(b)}), false)
	asked(t, ofLink(t, [][]byte{a}, [][]byte{a, b}, []api.Sum{leaves.Leaf(b)}), false)
	ofLists(t, [][]byte{a, b}, [][]byte{a, c})
}

// P13.1: each two of many lists of bytes, in both orders, and each one with itself.
func TestIs(t *testing.T) {
	met := 0
	for _, a := range texts() {
		asked(t, isClash(t, a, slices.Clone(a)), false)
		for _, b := range texts() {
			if isClash(t, a, b) {
				met++
			}
		}
	}
	seen(t, met)
}

// P13.1: of no bytes, on both sides, on one: empty and nil are the same.
func TestIsOfNone(t *testing.T) {
	met := 0
	for _, a := range [][]byte{nil, {}, make([]byte, 0, 9)} {
		for _, b := range [][]byte{nil, {}, make([]byte, 0, 9)} {
			asked(t, isClash(t, a, b), false)
		}
		n, found := first(t, func(n int) bool { return shas.Of(entry(n)) == shas.Of(nil) })
		met += asked(t, isClash(t, a, entry(n)), found)
		met += asked(t, isClash(t, entry(n), a), found)
		isClash(t, a, make([]byte, 32))
	}
	seen(t, met)
}

// P13.1: lists that are not the same in one bit alone, wherever it is, or of which one begins the other one.
func TestIsAlmost(t *testing.T) {
	for _, many := range []int{1, 2, 32, 64, 100} {
		b := bytes.Repeat([]byte{0xa5}, many)
		for bit := range many * 8 {
			other := slices.Clone(b)
			other[bit/8] ^= 1 << (bit % 8)
			isClash(t, b, other)
		}
		for end := range many {
			isClash(t, b, b[:end])
			isClash(t, b[:end], b)
		}
		asked(t, isClash(t, b, b), false)
	}
}

// P13.1, R1: long lists.
func TestIsOfLong(t *testing.T) {
	met := 0
	b := bytes.Repeat([]byte("long "), 1<<18)
	asked(t, isClash(t, b, slices.Clone(b)), false)
	n, found := first(t, func(n int) bool { return shas.Of(append(slices.Clone(b), entry(n)...)) == shas.Of(b) })
	met += asked(t, isClash(t, b, append(slices.Clone(b), entry(n)...)), found)
	for _, at := range []int{0, 1, 63, 64, len(b) / 2, len(b) - 1} {
		other := slices.Clone(b)
		other[at] ^= 1
		isClash(t, b, other)
	}
	isClash(t, b, b[1:])
	isClash(t, nil, b)
	seen(t, met)
}

// P13.2: no entries on both sides, and on one.
func TestListsOfNone(t *testing.T) {
	for _, none := range [][][]byte{nil, {}, make([][]byte, 0, 4)} {
		for _, other := range [][][]byte{nil, {}, make([][]byte, 0, 4)} {
			asked(t, ofLists(t, none, other), false)
		}
		for many := 1; many < 6; many++ {
			asked(t, ofLists(t, none, list(many)), false)
			asked(t, ofLists(t, list(many), none), false)
		}
		// No entries have the root of an entry, where sums are weak.
		n, _ := first(t, func(n int) bool { return rootOf(none) == leaves.Leaf(entry(n)) })
		asked(t, ofLists(t, none, [][]byte{entry(n)}), false)
		asked(t, ofLists(t, [][]byte{entry(n)}, none), false)
	}
}

// P13.2: the same entries, and those that are told the same by R4: none and empty ones.
func TestListsTheSame(t *testing.T) {
	for _, many := range numbers() {
		asked(t, ofLists(t, list(many), list(many)), false)
		for _, at := range places(many) {
			asked(t, ofLists(t, with(list(many), at, nil), with(list(many), at, []byte{})), false)
		}
		asked(t, ofLists(t, make([][]byte, many), slices.Repeat([][]byte{{}}, many)), false)
	}
}

// P13.2: one entry is another one, or is longer or shorter, at each place.
func TestListsOneOther(t *testing.T) {
	for _, many := range numbers() {
		l := list(many)
		for at := range many {
			for _, other := range [][]byte{entry(at + 100), append(slices.Clone(l[at]), 0), l[at][:len(l[at])/2], {0}, nil} {
				ofLists(t, l, with(l, at, other))
				ofLists(t, with(l, at, other), l)
			}
		}
	}
}

// P13.2: one entry is another one, such that the roots are the same: the first one, the last one, each in the midst.
func TestListsForged(t *testing.T) {
	met := 0
	for _, many := range numbers() {
		l := list(many)
		at := places(many)
		if many < 14 {
			at = nil
			for i := range many {
				at = append(at, i)
			}
		}
		for _, i := range at {
			other, found := forged(t, l, i, func(other [][]byte) bool { return rootOf(other) == rootOf(l) })
			met += asked(t, ofLists(t, l, other), found)
			met += asked(t, ofLists(t, other, l), found)
			asked(t, ofLists(t, other, slices.Clone(other)), false)
		}
	}
	seen(t, met)
}

// P13.2: two entries are others, such that the roots are the same.
func TestListsForgedTwice(t *testing.T) {
	met := 0
	for _, many := range []int{2, 3, 4, 5, 7, 8, 9, 16, 17} {
		l := list(many)
		for at := range many {
			for _, behind := range places(many) {
				if at == behind {
					continue
				}
				other, found := forged(t, with(l, at, entry(900)), behind, func(other [][]byte) bool { return rootOf(other) == rootOf(l) })
				met += asked(t, ofLists(t, l, other), found)
			}
		}
	}
	seen(t, met)
}

// P13.2: all entries are others, such that the roots are the same.
func TestListsForgedWhole(t *testing.T) {
	met := 0
	for _, many := range numbers() {
		l, others := list(many), list(2 * many)[many:]
		other, found := forged(t, others, many/2, func(other [][]byte) bool { return rootOf(other) == rootOf(l) })
		met += asked(t, ofLists(t, l, other), found)
	}
	seen(t, met)
}

// P13.2: the roots of parts of both are the same, but not the roots.
func TestListsOfOtherRoots(t *testing.T) {
	met := 0
	for _, many := range []int{2, 4, 8, 16, 32} {
		l, half := list(many), many/2
		other, alike := forged(t, l, half/2, func(other [][]byte) bool { return rootOf(other[:half]) == rootOf(l[:half]) })
		other, unlike := forged(t, other, many-1, func(other [][]byte) bool { return rootOf(other) != rootOf(l) })
		if alike && unlike {
			met++
		}
		asked(t, unlike && ofLists(t, l, other), false)
		asked(t, unlike && ofLists(t, other, l), false)
	}
	if met == 0 && weak != "" && bitsLeft(t) > 1 {
		t.Error("there were no lists such as these")
	}
}

// P13.2: one entry fewer, or more, though the roots be the same.
func TestListsOfOtherNumber(t *testing.T) {
	for _, many := range numbers() {
		l := list(many)
		for _, other := range [][][]byte{list(many + 1), l[:many-1], l[1:], slices.Insert(slices.Clone(l), many/2, nil), append(slices.Clone(l), nil), list(2 * many)} {
			asked(t, ofLists(t, l, other), false)
			asked(t, ofLists(t, other, l), false)
		}
		more, _ := forged(t, list(many+1), many, func(more [][]byte) bool { return rootOf(more) == rootOf(l) })
		asked(t, ofLists(t, l, more), false)
		asked(t, ofLists(t, more, l), false)
	}
}

// P13.2: entries that are alike, and entries whose bytes are a node's.
func TestListsAlike(t *testing.T) {
	met := 0
	for _, many := range numbers() {
		for _, b := range [][]byte{nil, {0}, []byte("alike")} {
			alike := slices.Repeat([][]byte{b}, many)
			ofLists(t, alike, slices.Repeat([][]byte{entry(3)}, many))
			ofLists(t, alike, list(many))
			asked(t, ofLists(t, alike, slices.Repeat([][]byte{b}, many+1)), false)
			for _, at := range places(many) {
				other, found := forged(t, alike, at, func(other [][]byte) bool { return rootOf(other) == rootOf(alike) })
				met += asked(t, ofLists(t, alike, other), found)
			}
		}
	}
	a, b := leaves.Leaf([]byte("a")), leaves.Leaf([]byte("b"))
	two := [][]byte{[]byte("a"), []byte("b")}
	asked(t, ofLists(t, two, [][]byte{slices.Concat([]byte{1}, a[:], b[:])}), false)
	asked(t, ofLists(t, two, [][]byte{slices.Concat(a[:], b[:])}), false)
	seen(t, met)
}

// P13.2: entries that change places.
func TestListsOfOtherOrder(t *testing.T) {
	met := 0
	for _, many := range numbers() {
		for at := 1; at < many; at++ {
			l := list(many)
			l[at-1], l[at] = l[at], l[at-1]
			if ofLists(t, list(many), l) {
				met++
			}
			l = list(many)
			l[0], l[at] = l[at], l[0]
			if ofLists(t, list(many), l) {
				met++
			}
		}
	}
	seen(t, met)
}

// anyEntries are so many, of few that there are: so that many are alike.
func anyEntries(r *rand.Rand, many int) [][]byte {
	l := make([][]byte, many)
	for i := range l {
		l[i] = entry(r.Intn(5))
	}
	return l
}

// P13.2: any two lists of entries.
func TestListsAny(t *testing.T) {
	r := rand.New(rand.NewSource(13))
	met := 0
	for range 6000 {
		a := anyEntries(r, r.Intn(12))
		b := slices.Clone(a)
		for range r.Intn(4) {
			if len(b) > 0 {
				b[r.Intn(len(b))] = entry(r.Intn(1000))
			}
		}
		if r.Intn(6) == 0 {
			b = anyEntries(r, r.Intn(12))
		}
		if ofLists(t, a, b) {
			met++
		}
	}
	seen(t, met)
}

// P13.2, R1: many entries, and long ones.
func TestListsOfMany(t *testing.T) {
	met := 0
	long := bytes.Repeat([]byte("long"), 1<<17)
	for _, l := range [][][]byte{list(1<<12 - 1), list(1 << 12), list(1<<12 + 1), slices.Repeat([][]byte{nil}, 1<<13), {long}, {nil, long, nil}} {
		asked(t, ofLists(t, l, slices.Clone(l)), false)
		asked(t, ofLists(t, l, l[1:]), false)
		for _, at := range []int{0, len(l) / 2, len(l) - 1} {
			ofLists(t, l, with(l, at, []byte("other")))
		}
		n, found := first(t, func(n int) bool { return leaves.Leaf(entry(n+5000)) == leaves.Leaf(l[len(l)/2]) })
		met += asked(t, ofLists(t, l, with(l, len(l)/2, entry(n+5000))), found)
	}
	seen(t, met)
}

// P13.3: of each entry its own path tells nothing.
func TestPathOfOwn(t *testing.T) {
	for _, many := range numbers() {
		l := list(many)
		for at := range many {
			if !letPath(l, at, l[at], pathOf(l, at)) {
				t.Errorf("the path of %d of %d is not let be", at, many)
			}
			asked(t, ofPath(t, l, at, l[at], pathOf(l, at)), false)
			asked(t, ofPath(t, l, at, slices.Clone(l[at]), pathOf(l, at)), false)
		}
		asked(t, ofPath(t, with(l, many/2, nil), many/2, []byte{}, pathOf(l, many/2)), false)
	}
}

// P13.3: another entry, by the path of the one that is there.
func TestPathOfOther(t *testing.T) {
	met := 0
	for _, many := range numbers() {
		l := list(many)
		for at := range many {
			path := pathOf(l, at)
			for _, b := range [][]byte{entry(at + 100), append(slices.Clone(l[at]), 0), {0}, nil, l[(at+1)%many]} {
				ofPath(t, l, at, b, path)
			}
			n, found := first(t, func(n int) bool { return letPath(l, at, entry(n+5000), path) })
			met += asked(t, ofPath(t, l, at, entry(n+5000), path), found)
		}
	}
	seen(t, met)
}

// P13.3: another entry, by a path of which one sum is another one, wherever it is.
func TestPathOfOtherSums(t *testing.T) {
	met := 0
	for _, many := range numbers() {
		l := list(many)
		for _, at := range places(many) {
			path := pathOf(l, at)
			for i := range path {
				ofPath(t, l, at, entry(100), withSum(path, i, sum(1)))
				other, found := forgedSum(t, path, i, func(path []api.Sum) bool { return letPath(l, at, entry(100), path) })
				met += asked(t, ofPath(t, l, at, entry(100), other), found)
				// The entry that is there is no other one, whatever the path.
				other, _ = forgedSum(t, path, i, func(path []api.Sum) bool { return letPath(l, at, l[at], path) })
				asked(t, ofPath(t, l, at, l[at], other), false)
			}
			if len(path) > 0 {
				strange, found := forgedSum(t, make([]api.Sum, len(path)), len(path)/2, func(path []api.Sum) bool { return letPath(l, at, entry(100), path) })
				met += asked(t, ofPath(t, l, at, entry(100), strange), found)
			}
		}
	}
	seen(t, met)
}

// P13.3: a path of one sum fewer, of one more, of none, of many more.
func TestPathOfOtherNumber(t *testing.T) {
	for _, many := range numbers() {
		l := list(many)
		for _, at := range places(many) {
			path := pathOf(l, at)
			n, _ := first(t, func(n int) bool { return letPath(l, at, entry(n+5000), path) })
			for _, b := range [][]byte{entry(n + 5000), l[at], entry(100)} {
				wrong := [][]api.Sum{append(slices.Clone(path), sum(1)), append(slices.Clone(path), api.Sum{}), append([]api.Sum{sum(1)}, path...), slices.Repeat([]api.Sum{sum(1)}, 70)}
				if len(path) > 0 {
					wrong = append(wrong, path[1:], path[:len(path)-1], nil, []api.Sum{})
				}
				for _, path := range wrong {
					asked(t, ofPath(t, l, at, b, path), false)
				}
			}
			for fewer := range len(path) {
				asked(t, ofPath(t, l, at, entry(100), path[:fewer]), false)
			}
		}
	}
}

// P13.3: a place that is the last one, that is not there, that is below 0, or far off.
func TestPathOfNoPlace(t *testing.T) {
	met := 0
	for _, many := range append([]int{0}, numbers()...) {
		l := list(many)
		for _, at := range []int{-1, -2, -many, -many - 1, many, many + 1, 2 * many, 1 << 16, 1 << 31, 1<<32 - 1, 1 << 32, 1<<32 + many - 1, math.MaxInt, math.MinInt, math.MinInt + 1} {
			if at >= 0 && at < many {
				continue
			}
			for _, path := range [][]api.Sum{nil, {{}}, pathOf(l, many-1), pathOf(l, 0), pathOf(list(many+1), many), slices.Repeat([]api.Sum{{}}, 64)} {
				for _, b := range [][]byte{nil, entry(1), entry(many - 1), entry(100)} {
					asked(t, ofPath(t, l, at, b, path), false)
				}
			}
		}
		if many > 0 {
			n, found := first(t, func(n int) bool { return letPath(l, many-1, entry(n+5000), pathOf(l, many-1)) })
			met += asked(t, ofPath(t, l, many-1, entry(n+5000), pathOf(l, many-1)), found)
			asked(t, ofPath(t, l, many, entry(n+5000), pathOf(l, many-1)), false)
		}
	}
	seen(t, met)
}

// P13.3: entries that are alike: one at another place is not another one.
func TestPathOfAlike(t *testing.T) {
	for _, many := range numbers() {
		alike := slices.Repeat([][]byte{[]byte("alike")}, many)
		for _, at := range places(many) {
			for _, other := range places(many) {
				asked(t, ofPath(t, alike, at, alike[other], pathOf(alike, other)), false)
				ofPath(t, list(many), at, entry(other), pathOf(list(many), other))
				ofPath(t, list(many), at, entry(other), pathOf(list(many), at))
			}
		}
	}
}

// anySums are sums of a path or a link, some of them others, some more, some fewer.
func anySums(r *rand.Rand, l []api.Sum) []api.Sum {
	l = slices.Clone(l)
	for range r.Intn(3) {
		if len(l) > 0 {
			l[r.Intn(len(l))] = sum(r.Intn(1000))
		}
	}
	switch r.Intn(8) {
	case 0:
		l = append(l, sum(r.Intn(9)))
	case 1:
		l = l[:len(l)/2]
	}
	return l
}

// P13.3: any entries, any place, any path.
func TestPathAny(t *testing.T) {
	r := rand.New(rand.NewSource(14))
	met := 0
	for range 6000 {
		l := anyEntries(r, r.Intn(20))
		at := r.Intn(len(l)+3) - 1
		if ofPath(t, l, at, entry(r.Intn(1000)), anySums(r, pathOf(l, at))) {
			met++
		}
		asked(t, at >= 0 && at < len(l) && ofPath(t, l, at, l[at], anySums(r, pathOf(l, at))), false)
	}
	seen(t, met)
}

// P13.3, R1: many entries, and long ones.
func TestPathOfMany(t *testing.T) {
	met := 0
	long := bytes.Repeat([]byte("long"), 1<<17)
	for _, l := range [][][]byte{list(1<<12 - 1), list(1 << 12), list(1<<12 + 1), {long}, {nil, long, nil}} {
		for _, at := range []int{0, len(l) / 2, len(l) - 1} {
			path := pathOf(l, at)
			asked(t, ofPath(t, l, at, l[at], path), false)
			ofPath(t, l, at, []byte("other"), path)
			ofPath(t, l, at, append(slices.Clone(long), 1), path)
			n, found := first(t, func(n int) bool { return leaves.Leaf(entry(n+5000)) == leaves.Leaf(l[at]) })
			met += asked(t, ofPath(t, l, at, entry(n+5000), path), found)
		}
	}
	seen(t, met)
}
