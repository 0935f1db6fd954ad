package links_test

import (
	"slices"
	"testing"

	"almoner/api"
	"almoner/fronts"
	"almoner/leaves"
	"almoner/links"
)

// P11.3: the link of each beginning is let be, by both sizes and both roots.
func TestEachLinkIsLetBe(t *testing.T) {
	for n := 1; n <= 80; n++ {
		l := list(n)
		root := leaves.Root(l)
		for from := 1; from <= n; from++ {
			letBe(t, true, uint64(from), uint64(n), leaves.Root(l[:from]), root, of(t, l, from))
		}
	}
}

// P11.3: likewise of many leaves.
func TestManyLinksAreLetBe(t *testing.T) {
	all := list(1<<14 + 1)
	for _, n := range append(edges(), 1<<14-1, 1<<14, 1<<14+1) {
		l := all[:n]
		root := leaves.Root(l)
		for _, from := range []int{1, 2, 3, n / 3, n / 2, n/2 + 1, n - 2, n - 1, n} {
			if from < 1 || from > n {
				continue
			}
			letBe(t, true, uint64(from), uint64(n), leaves.Root(l[:from]), root, of(t, l, from))
		}
	}
}

// P11.3: the roots are those of a tree that grew, too, told while it did.
func TestLinksOfAFront(t *testing.T) {
	f := fronts.New()
	var roots []api.Sum
	l := list(60)
	for _, s := range l {
		if e := f.Add(s); e != api.OK {
			t.Fatal(e)
		}
		roots = append(roots, f.Root())
		size := len(roots)
		for i, root := range roots {
			letBe(t, true, uint64(i+1), f.Size(), root, f.Root(), of(t, l[:size], i+1))
		}
	}
}

// P11.3: links one behind the other: of a beginning's beginning both links are let be, and so is the one from the first to the last.
func TestLinksBehindOneAnother(t *testing.T) {
	l := list(25)
	var roots []api.Sum
	for n := range len(l) + 1 {
		roots = append(roots, leaves.Root(l[:n]))
	}
	for last := 1; last <= len(l); last++ {
		for middle := 1; middle <= last; middle++ {
			behind := of(t, l[:last], middle)
			for first := 1; first <= middle; first++ {
				ahead, whole := of(t, l[:middle], first), of(t, l[:last], first)
				letBe(t, true, uint64(first), uint64(middle), roots[first], roots[middle], ahead)
				letBe(t, true, uint64(middle), uint64(last), roots[middle], roots[last], behind)
				letBe(t, true, uint64(first), uint64(last), roots[first], roots[last], whole)
				// One link in the place of another one is let be just if the words say so.
				letBe(t, slices.Equal(ahead, whole), uint64(first), uint64(last), roots[first], roots[last], ahead)
				letBe(t, slices.Equal(behind, whole), uint64(first), uint64(last), roots[first], roots[last], behind)
			}
		}
	}
}

// P11.3: a link goes on step by step: from each number of leaves to the next one, whatever the steps are.
func TestStepByStep(t *testing.T) {
	l := list(200)
	for _, step := range []int{1, 2, 3, 7, 16, 63, 64, 65} {
		from := 1
		for size := from + step; size <= len(l); from, size = size, size+step {
			letBe(t, true, uint64(from), uint64(size), leaves.Root(l[:from]), leaves.Root(l[:size]), of(t, l[:size], from))
		}
	}
}

// P11.3: of two lists of which the first one is no beginning of the other one no link is let be: neither that of the one nor that of the other.
func TestNoBeginning(t *testing.T) {
	for n := 1; n <= 20; n++ {
		l := list(n)
		root, size := leaves.Root(l), uint64(n)
		for from := 1; from <= n; from++ {
			link := of(t, l, from)
			for at := range from {
				old := slices.Clone(l[:from])
				old[at] = another(old[at])
				letBe(t, false, uint64(from), size, leaves.Root(old), root, link)
				// The other list's own link lets its own beginning be, not that one's.
				whole := slices.Concat(old, l[from:])
				other := of(t, whole, from)
				letBe(t, true, uint64(from), size, leaves.Root(old), leaves.Root(whole), other)
				letBe(t, false, uint64(from), size, leaves.Root(old), root, other)
				letBe(t, false, uint64(from), size, leaves.Root(l[:from]), leaves.Root(whole), link)
				letBe(t, false, uint64(from), size, leaves.Root(l[:from]), leaves.Root(whole), other)
			}
		}
	}
}

// P11.3: leaves that are changed for one another, or one that was left out, make no beginning.
func TestNoBeginningOfOthers(t *testing.T) {
	for n := 3; n <= 20; n++ {
		l := list(n)
		root, size := leaves.Root(l), uint64(n)
		for from := 2; from < n; from++ {
			link := of(t, l, from)
			for at := 1; at < from; at++ {
				changed := slices.Clone(l[:from])
				changed[at-1], changed[at] = changed[at], changed[at-1]
				letBe(t, false, uint64(from), size, leaves.Root(changed), root, link)
				out := slices.Delete(slices.Clone(l[:from+1]), at, at+1)
				letBe(t, false, uint64(from), size, leaves.Root(out), root, link)
			}
		}
	}
}

// P11.3: behind the beginning both lists may be as they like: each one's link lets the same beginning be, the other one's does not.
func TestListsThatPartBehind(t *testing.T) {
	for n := 2; n <= 24; n++ {
		one := list(n)
		for from := 1; from < n; from++ {
			other := slices.Clone(one)
			other[n-1] = another(other[n-1])
			a, size := leaves.Root(one[:from]), uint64(n)
			letBe(t, true, uint64(from), size, a, leaves.Root(one), of(t, one, from))
			letBe(t, true, uint64(from), size, a, leaves.Root(other), of(t, other, from))
			letBe(t, false, uint64(from), size, a, leaves.Root(other), of(t, one, from))
			letBe(t, false, uint64(from), size, a, leaves.Root(one), of(t, other, from))
		}
	}
}

// P11.3: no second link is found among those of the other beginnings of the list, unless it is the same.
func TestNoOtherLink(t *testing.T) {
	for _, n := range []int{1, 2, 3, 5, 8, 13, 32, 33} {
		l := list(n)
		root := leaves.Root(l)
		for from := 1; from <= n; from++ {
			own, a := of(t, l, from), leaves.Root(l[:from])
			for other := 1; other <= n; other++ {
				link := of(t, l, other)
				if got := links.Check(uint64(from), uint64(n), a, root, link); got != slices.Equal(link, own) {
					t.Errorf("of %d sums, the link of the first %d is let be of the first %d: %v", n, other, from, got)
				}
			}
		}
	}
}
