package clashes_test

import (
	"bytes"
	"math/rand"
	"slices"
	"testing"

	"almoner/api"
	"almoner/chains"
	"almoner/clashes"
	"almoner/leaves"
	"almoner/links"
	"almoner/paths"
)

// sureOf fails the test if there is neither what is said nor a clash, or if what is told with true is none, as it is told or turned round. It counts the clashes.
func sureOf(t *testing.T, said bool, c api.Clash, told bool) int {
	t.Helper()
	if !said && !told {
		t.Error("what is said is not so, and no clash is told")
	}
	for _, c := range []api.Clash{c, {A: c.B, B: c.A}} {
		if is := clashes.Is(c); is != told {
			t.Errorf("told with %v, a clash: %v: %x, %x", told, is, c.A, c.B)
		}
	}
	if told {
		return 1
	}
	return 0
}

// P13.5: as many entries of one root are the same, or whoever has both holds a clash.
func TestOneRoot(t *testing.T) {
	r := rand.New(rand.NewSource(16))
	met := 0
	for range 4000 {
		a, b := anyEntries(r, r.Intn(9)), anyEntries(r, r.Intn(9))
		if len(a) != len(b) || rootOf(a) != rootOf(b) {
			continue
		}
		c, told := clashes.Lists(a, b)
		met += sureOf(t, same(a, b), c, told)
	}
	seen(t, met)
}

// P13.5: what is let be at a place stands there, or whoever let it be holds a clash.
func TestOnePlace(t *testing.T) {
	r := rand.New(rand.NewSource(17))
	met := 0
	for range 4000 {
		l := anyEntries(r, r.Intn(18)+1)
		at := r.Intn(len(l))
		b, path := entry(r.Intn(5)), anySums(r, pathOf(l, at))
		if !letPath(l, at, b, path) {
			continue
		}
		c, told := clashes.Path(l, at, b, path)
		met += sureOf(t, bytes.Equal(l[at], b), c, told)
	}
	seen(t, met)
}

// P13.5: what is let be as a beginning is one, or whoever let it be holds a clash.
func TestOneBeginning(t *testing.T) {
	r := rand.New(rand.NewSource(18))
	met := 0
	for range 6000 {
		b := anyEntries(r, r.Intn(18)+1)
		a := slices.Clone(b[:r.Intn(len(b))+1])
		a[r.Intn(len(a))] = entry(r.Intn(5))
		link := anySums(r, linkOf(b, len(a)))
		if !letLink(a, b, link) {
			continue
		}
		c, told := clashes.Link(a, b, link)
		met += sureOf(t, begins(a, b), c, told)
	}
	seen(t, met)
}

// P13.5: of three lists and two links that are let be, one behind the other, the first one begins the last one, or one of both links tells a clash.
func TestLinksBehindOneAnother(t *testing.T) {
	r := rand.New(rand.NewSource(19))
	met := 0
	for range 20000 {
		last := anyEntries(r, r.Intn(9)+1)
		middle := slices.Clone(last[:r.Intn(len(last))+1])
		middle[r.Intn(len(middle))] = entry(r.Intn(5))
		first := slices.Clone(middle[:r.Intn(len(middle))+1])
		first[r.Intn(len(first))] = entry(r.Intn(5))
		ahead, behind := linkOf(middle, len(first)), linkOf(last, len(middle))
		if !letLink(first, middle, ahead) || !letLink(middle, last, behind) {
			continue
		}
		c, told := clashes.Link(first, middle, ahead)
		if !told {
			c, told = clashes.Link(middle, last, behind)
		}
		met += sureOf(t, begins(first, last), c, told)
	}
	seen(t, met)
}

// P13.5: a path that is let be of one list leads another list with that root to what stands there, too, or there are clashes.
func TestPathOfAnotherList(t *testing.T) {
	met := 0
	for _, many := range numbers() {
		l := list(many)
		for _, at := range places(many) {
			other, found := forged(t, l, at, func(other [][]byte) bool { return rootOf(other) == rootOf(l) })
			if !found {
				continue
			}
			c, told := clashes.Path(other, at, l[at], pathOf(l, at))
			met += sureOf(t, false, c, told)
			c, told = clashes.Path(l, at, other[at], pathOf(other, at))
			met += sureOf(t, false, c, told)
			c, told = clashes.Path(other, at, other[at], pathOf(l, at))
			met += sureOf(t, true, c, told)
		}
	}
	seen(t, met)
}

// P13.5: of a log that is kept honestly nobody holds a clash, by whatever it tells.
func TestHonestLog(t *testing.T) {
	log, l := chains.New(), list(20)
	for _, b := range l {
		if e := log.Add(b); e != api.OK {
			t.Fatal(e)
		}
	}
	for size := 1; size <= len(l); size++ {
		root, _ := log.Root(uint64(size))
		for at := range size {
			path, _ := log.Path(uint64(at), uint64(size))
			if !paths.Check(leaves.Leaf(l[at]), uint64(at), uint64(size), path, root) {
				t.Errorf("the path of %d of %d is not let be", at, size)
			}
			c, told := clashes.Path(l[:size], at, l[at], path)
			sureOf(t, !told, c, told)
			old, _ := log.Root(uint64(at + 1))
			link, _ := log.Link(uint64(at+1), uint64(size))
			if !links.Check(uint64(at+1), uint64(size), old, root, link) {
				t.Errorf("the link of the first %d of %d is not let be", at+1, size)
			}
			c, told = clashes.Link(l[:at+1], l[:size], link)
			sureOf(t, !told, c, told)
		}
	}
}
