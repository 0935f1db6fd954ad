package chains_test

import (
	"bytes"
	"slices"
	"testing"

	"almoner/api"
	"almoner/chains"
	"almoner/fronts"
	"almoner/leaves"
	"almoner/links"
	"almoner/paths"
)

// told is what a chain tells of its first entries: each entry, each mark, each root, each path and each link.
type told struct {
	entries     [][]byte
	marks       []api.Sum
	roots       []api.Sum
	paths, ties [][][]api.Sum
}

// tells is what a chain tells of the first ones, all of which are there.
func tells(t *testing.T, c *chains.Chain, many int) told {
	t.Helper()
	var all told
	fine := func(e api.Errno) {
		t.Helper()
		if e != api.OK {
			t.Fatalf("of %d entries, something of the first %d: %v", c.Size(), many, e)
		}
	}
	for size := range uint64(many + 1) {
		m, e := c.Mark(size)
		fine(e)
		r, e := c.Root(size)
		fine(e)
		all.marks, all.roots = append(all.marks, m), append(all.roots, r)
		var ways, ties [][]api.Sum
		for at := range size {
			p, e := c.Path(at, size)
			fine(e)
			l, e := c.Link(at+1, size)
			fine(e)
			ways, ties = append(ways, p), append(ties, l)
		}
		all.paths, all.ties = append(all.paths, ways), append(all.ties, ties)
	}
	for n := range uint64(many) {
		b, e := c.Entry(n)
		fine(e)
		all.entries = append(all.entries, b)
	}
	return all
}

// same is whether both tell the same.
func same(a, b told) bool {
	lists := func(a, b [][]api.Sum) bool { return slices.EqualFunc(a, b, slices.Equal[[]api.Sum]) }
	return slices.EqualFunc(a.entries, b.entries, bytes.Equal) &&
		slices.Equal(a.marks, b.marks) && slices.Equal(a.roots, b.roots) &&
		slices.EqualFunc(a.paths, b.paths, lists) && slices.EqualFunc(a.ties, b.ties, lists)
}

// P12.5: what was told of the first ones stays, whatever is added behind them: it is the same ahead of others and behind them.
func TestAddedChangesNothing(t *testing.T) {
	l := written(33)
	for many := range 18 {
		c := made(t, l[:many]...)
		before := tells(t, c, many)
		for _, b := range l[many:] {
			add(t, c, b)
			if c.Size()%5 == 0 && !same(tells(t, c, many), before) {
				t.Errorf("of %d entries, something else is told of the first %d", c.Size(), many)
			}
		}
		if !same(tells(t, c, many), before) || !same(tells(t, made(t, l...), many), before) {
			t.Errorf("of all, something else is told of the first %d", many)
		}
	}
}

// P12.5: likewise of many entries.
func TestAddedChangesNothingOfMany(t *testing.T) {
	l := written(600)
	c := made(t, l[:40]...)
	before := tells(t, c, 40)
	for i, b := range l[40:] {
		add(t, c, b)
		if i%50 == 0 && !same(tells(t, c, 40), before) {
			t.Fatalf("of %d entries, something else is told of the first 40", c.Size())
		}
	}
	if !same(tells(t, c, 40), before) {
		t.Error("of all, something else is told of the first 40")
	}
}

// P12.5: an entry that is not let be changes nothing, too.
func TestNotAddedChangesNothing(t *testing.T) {
	c := made(t, written(12)...)
	before := tells(t, c, 12)
	if e := c.Add(make([]byte, api.MaxBytes+1)); e != api.ErrLimit {
		t.Errorf("Add = %v", e)
	}
	if c.Size() != 12 || !same(tells(t, c, 12), before) {
		t.Error("what was not added changed something")
	}
}

// P12.5: two chains that begin alike tell the same of where they do, however they go on, and how far.
func TestBeginAlike(t *testing.T) {
	for many := range 14 {
		first := written(many)
		one, other := made(t, first...), made(t, first...)
		add(t, one, row(77, 3), row(78, 4), row(79, 5))
		for i := range 11 {
			add(t, other, row(80+i, i))
		}
		if !same(tells(t, one, many), tells(t, other, many)) {
			t.Errorf("two chains tell something else of the first %d, which are the same", many)
		}
		size := uint64(many + 1)
		a, _ := one.Mark(size)
		b, _ := other.Mark(size)
		if a == b {
			t.Errorf("two chains have one mark of the first %d, which are not the same", size)
		}
		a, _ = one.Root(size)
		b, _ = other.Root(size)
		if a == b {
			t.Errorf("two chains have one root of the first %d, which are not the same", size)
		}
	}
}

// P12.3, P12.5: from an entry that is another one on, all marks and all roots are others; up to it, none is.
func TestAnotherEntry(t *testing.T) {
	l := written(20)
	one := made(t, l...)
	for at := range l {
		changed := slices.Clone(l)
		changed[at] = append(slices.Clone(l[at]), 0)
		other := made(t, changed...)
		for n := range uint64(len(l) + 1) {
			a, _ := one.Mark(n)
			b, _ := other.Mark(n)
			c, _ := one.Root(n)
			d, _ := other.Root(n)
			if (a == b) != (n <= uint64(at)) || (c == d) != (n <= uint64(at)) {
				t.Errorf("the entry %d is another one, of the first %d: marks %x, %x, roots %x, %x", at, n, a, b, c, d)
			}
		}
	}
}

// P12.3: a mark hangs on the order of the entries.
func TestAnotherOrder(t *testing.T) {
	l := written(12)
	want, _ := made(t, l...).Mark(12)
	for at := 1; at < len(l); at++ {
		changed := slices.Clone(l)
		changed[at-1], changed[at] = changed[at], changed[at-1]
		if got, _ := made(t, changed...).Mark(12); got == want {
			t.Errorf("the entries %d and %d may change places", at-1, at)
		}
	}
}

// P12.4: each path is let be by paths.Check, and each link by links.Check, with the roots that the chain tells.
func TestLetBe(t *testing.T) {
	l := written(40)
	c := made(t, l...)
	for size := range uint64(len(l) + 1) {
		whole, _ := c.Root(size)
		for at := range size {
			way, _ := c.Path(at, size)
			if !paths.Check(leaves.Leaf(l[at]), at, size, way, whole) {
				t.Errorf("the path of the entry %d of the first %d is not let be", at, size)
			}
			begin, _ := c.Root(at + 1)
			tie, _ := c.Link(at+1, size)
			if !links.Check(at+1, size, begin, whole, tie) {
				t.Errorf("the link of the first %d of the first %d is not let be", at+1, size)
			}
		}
	}
}

// P12.4: what is told of the first ones is what leaves, paths and links tell of their leaves' sums, and a front that grew its root.
func TestAsBelow(t *testing.T) {
	l := written(21)
	c := made(t, l...)
	front := fronts.New()
	var all []api.Sum
	for n := range uint64(len(l) + 1) {
		if n > 0 {
			all = append(all, leaves.Leaf(l[n-1]))
			front.Add(all[n-1])
		}
		root(t, c, n, leaves.Root(all), api.OK)
		root(t, c, n, front.Root(), api.OK)
		for at := range n + 3 {
			wantPath, e := paths.Of(all, int(at))
			path(t, c, at, n, wantPath, e)
			wantLink, e := links.Of(all, int(at))
			link(t, c, at, n, wantLink, e)
		}
	}
}
