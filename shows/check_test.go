package shows_test

import (
	"bytes"
	"fmt"
	"math/rand"
	"slices"
	"testing"

	"almoner/api"
	"almoner/keys"
)

// P16.2: the bytes that stand at the key, and no others.
func TestCheckOtherBytes(t *testing.T) {
	eachCase(t, func(t *testing.T, a asked, root api.Sum, s api.Show) {
		v := a.c[a.k]
		taken(t, "its own", root, a.k, v, s)
		for i := range v {
			other := slices.Clone(v)
			other[i] ^= 1
			refused(t, fmt.Sprintf("another byte at %d", i), root, a.k, other, s)
			refused(t, fmt.Sprintf("without what is behind %d, and that", i), root, a.k, v[:i], s)
		}
		for _, b := range []byte{0, 'a', 255} {
			refused(t, "a byte more", root, a.k, append(slices.Clone(v), b), s)
			refused(t, "a byte more, ahead", root, a.k, append([]byte{b}, v...), s)
		}
		for _, n := range []int{256, 257, 5000} {
			refused(t, "many bytes", root, a.k, make([]byte, n), s)
		}
		refused(t, "the key itself", root, a.k, a.k[:], s)
		refused(t, "what is summed up", root, a.k, slices.Concat([]byte{3}, a.k[:], v), s)
	})
}

// P16.2: no bytes, nil, empty or with spare room, stand at a key that has none, and not at one that has some.
func TestCheckNone(t *testing.T) {
	eachCase(t, func(t *testing.T, a asked, root api.Sum, s api.Show) {
		for _, none := range [][]byte{nil, {}, row(70)[:0], row(70)[70:], a.c[a.k][:0]} {
			if len(a.c[a.k]) == 0 {
				taken(t, "none of one that has none", root, a.k, none, s)
			} else {
				refused(t, "none of one that has some", root, a.k, none, s)
			}
		}
		refused(t, "a nought", root, a.k, []byte{0}, s)
	})
}

// P16.2: another root, that differs in one bit, is that of another map, or is no root.
func TestCheckOtherRoot(t *testing.T) {
	eachCase(t, func(t *testing.T, a asked, root api.Sum, s api.Show) {
		v := a.c[a.k]
		for depth := range 256 {
			if depth%16 == 0 || depth > 250 {
				refused(t, "a root of another bit", turned(root, depth), a.k, v, s)
			}
		}
		for _, other := range []api.Sum{{}, filled(255), wantedValue(a.k, v), some(21).root(), content{sum(3): []byte("x")}.root()} {
			refused(t, "another root", other, a.k, v, s)
		}
		if len(a.c) > 0 {
			refused(t, "the root of none", wantedEmpty()[0], a.k, v, s)
		}
	})
}

// P16.2: another key, unlike in one bit: what stands there by that show is something else, unless nothing does, and both are equally empty.
func TestCheckOtherKey(t *testing.T) {
	eachCase(t, func(t *testing.T, a asked, root api.Sum, s api.Show) {
		last := -1 // the last depth at which something stands beside
		for depth := range 256 {
			if side(s.Which, depth) == 1 {
				last = depth
			}
		}
		for depth := range 256 {
			if depth > 4 && depth%30 > 1 && depth < 253 {
				continue
			}
			other := turned(a.k, depth)
			if len(a.c[a.k]) == 0 && depth > last {
				taken(t, fmt.Sprintf("nothing beside nothing, unlike at %d", depth), root, other, nil, s)
			} else {
				refused(t, fmt.Sprintf("unlike at %d", depth), root, other, a.c[a.k], s)
			}
		}
	})
}

// with is a show with these sides.
func with(s api.Show, sides []api.Sum) api.Show { return api.Show{Which: s.Which, Sides: sides} }

// P16.2: a side too many, in whatever place, is one that no bit tells of.
func TestCheckSideTooMany(t *testing.T) {
	eachCase(t, func(t *testing.T, a asked, root api.Sum, s api.Show) {
		v := a.c[a.k]
		for at := range len(s.Sides) + 1 {
			for _, more := range []api.Sum{{}, filled(255), sum(at), wantedEmpty()[256], wantedEmpty()[0], root, wantedValue(a.k, v)} {
				refused(t, "a side more", root, a.k, v, with(s, slices.Insert(slices.Clone(s.Sides), at, more)))
			}
		}
		for at, twice := range s.Sides {
			refused(t, "a side twice", root, a.k, v, with(s, slices.Insert(slices.Clone(s.Sides), at, twice)))
		}
		for _, many := range []int{2, 256, 257, 1 << 16} {
			refused(t, "many sides more, behind", root, a.k, v, with(s, append(slices.Clone(s.Sides), make([]api.Sum, many)...)))
			refused(t, "many sides more, ahead", root, a.k, v, with(s, append(make([]api.Sum, many), s.Sides...)))
		}
	})
}

// P16.2: a side too few, whichever it be, and none at all though bits say some.
func TestCheckSideTooFew(t *testing.T) {
	eachCase(t, func(t *testing.T, a asked, root api.Sum, s api.Show) {
		v := a.c[a.k]
		for at := range s.Sides {
			refused(t, "a side less", root, a.k, v, with(s, slices.Delete(slices.Clone(s.Sides), at, at+1)))
		}
		if len(s.Sides) > 0 {
			refused(t, "none", root, a.k, v, with(s, nil))
			refused(t, "empty", root, a.k, v, with(s, []api.Sum{}))
			refused(t, "empty, the sides being spare room", root, a.k, v, with(s, s.Sides[:0]))
			refused(t, "one less, being spare room", root, a.k, v, with(s, s.Sides[:len(s.Sides)-1]))
		}
	})
}

// P16.2: a bit that says that there is a side, though there is none: of each depth, of all.
func TestCheckNoSides(t *testing.T) {
	for _, k := range []api.Sum{{}, filled(255), sum(1)} {
		for _, v := range [][]byte{nil, []byte("a")} {
			c := content{}
			if v != nil {
				c[k] = v
			}
			root := c.root()
			taken(t, "no bit", root, k, v, api.Show{})
			for depth := range 256 {
				refused(t, "a bit without a side", root, k, v, api.Show{Which: turned(api.Sum{}, depth)})
			}
			refused(t, "all bits, no side", root, k, v, api.Show{Which: filled(255)})
			refused(t, "all bits, one side", root, k, v, api.Show{Which: filled(255), Sides: make([]api.Sum, 1)})
			refused(t, "all bits, a side too few", root, k, v, api.Show{Which: filled(255), Sides: wantedEmpty()[2:]})
			refused(t, "all bits, a side too many", root, k, v, api.Show{Which: filled(255), Sides: wantedEmpty()[:]})
			refused(t, "no bit, all sides", root, k, v, api.Show{Sides: wantedEmpty()[1:]})
		}
	}
}

// P16.2: the sides in another order, or other ones.
func TestCheckOtherSides(t *testing.T) {
	eachCase(t, func(t *testing.T, a asked, root api.Sum, s api.Show) {
		v := a.c[a.k]
		for at := range s.Sides {
			for _, depth := range []int{0, 130, 255} {
				other := slices.Clone(s.Sides)
				other[at] = turned(other[at], depth)
				refused(t, "a side that is unlike in a bit", root, a.k, v, with(s, other))
			}
			other := slices.Clone(s.Sides)
			other[at] = api.Sum{}
			refused(t, "a side of noughts", root, a.k, v, with(s, other))
			for behind := at + 1; behind < len(s.Sides); behind++ {
				other := slices.Clone(s.Sides)
				other[at], other[behind] = other[behind], other[at]
				refused(t, "two sides that changed places", root, a.k, v, with(s, other))
			}
		}
		if len(s.Sides) > 1 {
			other := slices.Clone(s.Sides)
			slices.Reverse(other)
			refused(t, "from behind", root, a.k, v, with(s, other))
			refused(t, "the first one last", root, a.k, v, with(s, append(slices.Clone(s.Sides[1:]), s.Sides[0])))
		}
	})
}

// P16.2: a bit more, a bit less, and one at another depth, the sides being as they were.
func TestCheckOtherBits(t *testing.T) {
	eachCase(t, func(t *testing.T, a asked, root api.Sum, s api.Show) {
		v := a.c[a.k]
		for depth := range 256 {
			other := s
			other.Which = turned(s.Which, depth)
			refused(t, fmt.Sprintf("another bit at %d", depth), root, a.k, v, other)
			if next := (depth + 1) % 256; depth%5 == 0 && side(s.Which, depth) != side(s.Which, next) {
				other.Which = turned(other.Which, next)
				refused(t, fmt.Sprintf("the bits of %d and %d, changed", depth, next), root, a.k, v, other)
			}
		}
		if len(s.Sides) > 0 {
			refused(t, "no bits", root, a.k, v, api.Show{Sides: s.Sides})
		}
		refused(t, "all bits the other way", root, a.k, v, api.Show{Which: inverted(s.Which), Sides: s.Sides})
	})
}

// inverted has each bit the other way.
func inverted(s api.Sum) api.Sum {
	for i := range s {
		s[i] = ^s[i]
	}
	return s
}

// P16.2: a bit more and a side of it: let be if that tells what is empty there, and only then.
func TestCheckTellsEmpty(t *testing.T) {
	eachCase(t, func(t *testing.T, a asked, root api.Sum, s api.Show) {
		v, all := a.c[a.k], s
		for depth := range 256 {
			if side(s.Which, depth) == 1 {
				continue
			}
			all = api.Show{Which: turned(all.Which, depth), Sides: slices.Insert(slices.Clone(all.Sides), place(all, depth), wantedEmpty()[depth+1])}
			if depth%25 > 0 && depth < 254 {
				continue
			}
			more := func(sum api.Sum) api.Show {
				return api.Show{Which: turned(s.Which, depth), Sides: slices.Insert(slices.Clone(s.Sides), place(s, depth), sum)}
			}
			taken(t, fmt.Sprintf("what is empty, told at %d", depth), root, a.k, v, more(wantedEmpty()[depth+1]))
			taken(t, fmt.Sprintf("what is empty, told at %d and ahead", depth), root, a.k, v, all)
			refused(t, fmt.Sprintf("what is empty at the depth itself, told at %d", depth), root, a.k, v, more(wantedEmpty()[depth]))
			refused(t, fmt.Sprintf("noughts, told at %d", depth), root, a.k, v, more(api.Sum{}))
		}
		if all.Which != filled(255) || len(all.Sides) != 256 {
			t.Fatalf("%d sides, Which = %x", len(all.Sides), all.Which)
		}
		taken(t, "all told", root, a.k, v, all)
		refused(t, "all told, and a side more", root, a.k, v, with(all, append(slices.Clone(all.Sides), wantedEmpty()[256])))
	})
}

// P16.2: a bit less and its side less: what stands beside is not empty.
func TestCheckTellsLess(t *testing.T) {
	eachCase(t, func(t *testing.T, a asked, root api.Sum, s api.Show) {
		for depth := range 256 {
			if at := place(s, depth); side(s.Which, depth) == 1 {
				less := api.Show{Which: turned(s.Which, depth), Sides: slices.Delete(slices.Clone(s.Sides), at, at+1)}
				refused(t, fmt.Sprintf("not told at %d", depth), root, a.k, a.c[a.k], less)
			}
		}
	})
}

// P16.2: the bytes may be more than may be put: what counts is the root.
func TestCheckManyBytes(t *testing.T) {
	for _, n := range []int{256, 257, 5000, 1 << 17} {
		k, other := sum(n), parting(sum(n), 3, 1)
		c := content{k: row(n), other: []byte("b")}
		taken(t, fmt.Sprintf("%d bytes", n), c.root(), k, row(n), c.show(k))
		refused(t, fmt.Sprintf("one less than %d bytes", n), c.root(), k, row(n-1), c.show(k))
		taken(t, "what stands beside", c.root(), other, []byte("b"), c.show(other))
	}
}

// P16.2: any show leads to what it leads to, be it a map's or not: that is the root of which it lets be, and no other one.
func TestCheckAny(t *testing.T) {
	t.Parallel()
	random := rand.New(rand.NewSource(162))
	for n := range 150 {
		var s api.Show
		for depth := range 256 {
			if random.Intn(150) < n {
				s.Which = turned(s.Which, depth)
				s.Sides = append(s.Sides, sum(random.Intn(1000)))
			}
		}
		k, v := sum(n), row(random.Intn(4)*random.Intn(90))
		at := wantedLead(k, v, s)[0]
		taken(t, "where it leads to", at, k, v, s)
		refused(t, "anywhere", sum(n), k, v, s)
		refused(t, "another bit", at, k, v, api.Show{Which: turned(s.Which, random.Intn(256)), Sides: s.Sides})
		refused(t, "other bytes", at, k, append(bytes.Clone(v), 1), s)
	}
}

// P16.2: of a tree of two keys, worked out by the calls of keys alone.
func TestCheckByKeys(t *testing.T) {
	t.Parallel()
	for depth := range 256 {
		k := sum(depth)
		told := keys.Value(turned(k, depth), []byte("b"))
		root, none := keys.Value(k, []byte("a")), keys.Empty(256)
		s := api.Show{Which: turned(api.Sum{}, depth)}
		for at := 255; at >= 0; at-- {
			beside := none
			if at == depth {
				beside, s.Sides = told, []api.Sum{told}
			}
			if keys.Bit(k, at) == 0 {
				root, told = keys.Side(root, beside), keys.Side(told, none)
			} else {
				root, told = keys.Side(beside, root), keys.Side(none, told)
			}
			none = keys.Side(none, none)
		}
		taken(t, fmt.Sprintf("two that part at %d", depth), root, k, []byte("a"), s)
		refused(t, "the other one's bytes", root, k, []byte("b"), s)
	}
}
