package clashes_test

import (
	"bytes"
	"math/rand"
	"slices"
	"testing"

	"almoner/api"
	"almoner/clashes"
	"almoner/leaves"
)

// beginnings of so many: of one, round each power of two, in the midst, of all.
func beginnings(many int) []int {
	var out []int
	for _, from := range []int{1, 2, 3, 4, 5, 7, 8, 9, 16, 17, 32, 33, 64, many / 2, many - 2, many - 1, many} {
		if from >= 1 && from <= many {
			out = append(out, from)
		}
	}
	slices.Sort(out)
	return slices.Compact(out)
}

// P13.4: of each beginning its own link tells nothing.
func TestLinkOfOwn(t *testing.T) {
	for _, many := range numbers() {
		l := list(many)
		for from := 1; from <= many; from++ {
			if !letLink(l[:from], l, linkOf(l, from)) {
				t.Errorf("the link of the first %d of %d is not let be", from, many)
			}
			asked(t, ofLink(t, l[:from], l, linkOf(l, from)), false)
			empty := slices.Clone(l[:from])
			empty[0] = []byte{}
			asked(t, ofLink(t, empty, l, linkOf(l, from)), false)
		}
	}
}

// P13.4: a beginning of none, whatever the link, though all roots be the same.
func TestLinkOfNone(t *testing.T) {
	for _, none := range [][][]byte{nil, {}, make([][]byte, 0, 3)} {
		for _, many := range append([]int{0}, numbers()...) {
			l := list(many)
			for _, link := range [][]api.Sum{nil, {}, {{}}, linkOf(l, 1), linkOf(l, many), {rootOf(l)}, {rootOf(l), rootOf(nil)}} {
				asked(t, ofLink(t, none, l, link), false)
			}
		}
	}
}

// P13.4: of more than there are, by one or by many, or of some where there is none.
func TestLinkOfMore(t *testing.T) {
	for _, many := range append([]int{0}, numbers()...) {
		l := list(many)
		for _, more := range []int{1, 2, many, many + 1, 100} {
			if more == 0 {
				continue
			}
			longer := list(many + more)
			for _, link := range [][]api.Sum{nil, {{}}, linkOf(longer, max(many, 1)), linkOf(longer, many+more), linkOf(l, many), {rootOf(l)}} {
				asked(t, ofLink(t, longer, l, link), false)
			}
			other, _ := forged(t, longer, 0, func(other [][]byte) bool { return rootOf(other) == rootOf(l) })
			asked(t, ofLink(t, other, l, nil), false)
			asked(t, ofLink(t, other, l, linkOf(other, max(many, 1))), false)
		}
	}
}

// P13.4: of all, by no sums: as of two lists.
func TestLinkOfAll(t *testing.T) {
	met := 0
	for _, many := range numbers() {
		l := list(many)
		asked(t, ofLink(t, l, slices.Clone(l), nil), false)
		for _, at := range places(many) {
			ofLink(t, with(l, at, entry(100)), l, nil)
			other, found := forged(t, l, at, func(other [][]byte) bool { return rootOf(other) == rootOf(l) })
			met += asked(t, ofLink(t, other, l, nil), found)
			met += asked(t, ofLink(t, l, other, []api.Sum{}), found)
			asked(t, ofLink(t, l, other, []api.Sum{rootOf(l)}), false)
		}
	}
	seen(t, met)
}

// P13.4: an entry of the beginning is another one, by the link of the others: at the first place, at the last one, in the midst.
func TestLinkOfOther(t *testing.T) {
	met := 0
	for _, many := range numbers() {
		l := list(many)
		for _, from := range beginnings(many) {
			link := linkOf(l, from)
			for _, at := range places(from) {
				ofLink(t, with(l[:from], at, entry(100)), l, link)
				ofLink(t, l[:from], with(l, at, entry(100)), link)
				other, found := forged(t, l[:from], at, func(a [][]byte) bool { return letLink(a, l, link) })
				met += asked(t, ofLink(t, other, l, link), found)
				other, found = forged(t, l, at, func(b [][]byte) bool { return letLink(l[:from], b, link) })
				met += asked(t, ofLink(t, l[:from], other, link), found)
			}
		}
	}
	seen(t, met)
}

// P13.4: each beginning of few, each place.
func TestLinkOfEach(t *testing.T) {
	met := 0
	for many := 1; many <= 13; many++ {
		l := list(many)
		for from := 1; from <= many; from++ {
			link := linkOf(l, from)
			for at := range from {
				other, found := forged(t, l[:from], at, func(a [][]byte) bool { return letLink(a, l, link) })
				met += asked(t, ofLink(t, other, l, link), found)
			}
		}
	}
	seen(t, met)
}

// P13.4: all entries of the beginning are others.
func TestLinkOfOthers(t *testing.T) {
	met := 0
	for _, many := range numbers() {
		l, others := list(many), list(2 * many)[many:]
		for _, from := range beginnings(many) {
			link := linkOf(l, from)
			other, found := forged(t, others[:from], from/2, func(a [][]byte) bool { return letLink(a, l, link) })
			met += asked(t, ofLink(t, other, l, link), found)
		}
	}
	seen(t, met)
}

// P13.4: behind the beginning each may be as it likes: a is the beginning, whatever link is let be.
func TestLinkOfOthersBehind(t *testing.T) {
	for _, many := range numbers() {
		l := list(many)
		for _, from := range beginnings(many) {
			link := linkOf(l, from)
			for _, at := range places(many) {
				if at < from {
					continue
				}
				other, _ := forged(t, l, at, func(b [][]byte) bool { return letLink(l[:from], b, link) })
				asked(t, ofLink(t, l[:from], other, link), false)
			}
		}
	}
}

// P13.4: another beginning, by a link of which one sum is another one, wherever it is.
func TestLinkOfOtherSums(t *testing.T) {
	met := 0
	for _, many := range numbers() {
		l := list(many)
		for _, from := range beginnings(many) {
			link := linkOf(l, from)
			for i := range link {
				for n := range min(tries(t), 40) {
					strange := withSum(link, i, sum(n))
					a := with(l[:from], n%from, entry(n+200))
					if ofLink(t, a, l, strange) {
						met++
					}
					asked(t, ofLink(t, l[:from], l, strange), false)
				}
			}
		}
	}
	seen(t, met)
}

// P13.4: what the link says of both is neither's: no sum of it is of the entries, and both roots are what it leads to.
func TestLinkOfStrangeSums(t *testing.T) {
	if weak != "" && bitsLeft(t) > 3 {
		t.Skip("both roots are hardly ever what strange sums lead to")
	}
	met := 0
	for _, many := range numbers() {
		l := list(many)
		for _, from := range beginnings(many) {
			for n := range min(tries(t), 40) {
				strange := make([]api.Sum, len(linkOf(l, from)))
				for i := range strange {
					strange[i] = sum(n*100 + i)
				}
				if ofLink(t, with(l[:from], n%from, entry(n+200)), l, strange) {
					met++
				}
			}
		}
	}
	seen(t, met)
}

// P13.4: a link of one sum fewer, of one more, of none, of many more.
func TestLinkOfOtherNumber(t *testing.T) {
	for _, many := range numbers() {
		l := list(many)
		for _, from := range beginnings(many) {
			link := linkOf(l, from)
			a, _ := forged(t, l[:from], from/2, func(a [][]byte) bool { return letLink(a, l, link) })
			for _, a := range [][][]byte{a, l[:from], with(l[:from], 0, entry(100))} {
				wrong := [][]api.Sum{append(slices.Clone(link), sum(1)), append(slices.Clone(link), api.Sum{}), append([]api.Sum{rootOf(a)}, link...), slices.Repeat([]api.Sum{{}}, 130)}
				if len(link) > 0 {
					wrong = append(wrong, link[1:], link[:len(link)-1], nil, []api.Sum{})
				}
				for _, link := range wrong {
					asked(t, ofLink(t, a, l, link), false)
				}
			}
		}
	}
}

// P13.4: by the link of another beginning, or of another number of entries.
func TestLinkOfAnother(t *testing.T) {
	for many := 1; many <= 17; many++ {
		l := list(many)
		for from := 1; from <= many; from++ {
			a := with(l[:from], from-1, entry(100))
			for other := 1; other <= many; other++ {
				ofLink(t, a, l, linkOf(l, other))
				asked(t, ofLink(t, l[:from], l, linkOf(l, other)), false)
			}
			ofLink(t, a, l, linkOf(list(many+1), from))
			ofLink(t, a, l, linkOf(l[:from], from))
		}
	}
}

// P13.4: entries that are alike: fewer of them are the beginning of more.
func TestLinkOfAlike(t *testing.T) {
	met := 0
	for _, many := range numbers() {
		alike := slices.Repeat([][]byte{[]byte("alike")}, many)
		for _, from := range beginnings(many) {
			asked(t, ofLink(t, alike[:from], alike, linkOf(alike, from)), false)
			asked(t, ofLink(t, alike[many-from:], alike, linkOf(alike, from)), false)
			other, found := forged(t, alike[:from], from-1, func(a [][]byte) bool { return letLink(a, alike, linkOf(alike, from)) })
			met += asked(t, ofLink(t, other, alike, linkOf(alike, from)), found)
		}
	}
	seen(t, met)
}

// P13.4: any entries, any beginning, any link.
func TestLinkAny(t *testing.T) {
	r := rand.New(rand.NewSource(15))
	met := 0
	for range 10000 {
		b := anyEntries(r, r.Intn(20))
		a := slices.Clone(b[:r.Intn(len(b)+1)])
		link := anySums(r, linkOf(b, len(a)))
		asked(t, ofLink(t, a, b, link), false)
		for range r.Intn(3) + 1 {
			if len(a) > 0 {
				a[r.Intn(len(a))] = entry(r.Intn(1000))
			}
		}
		if r.Intn(9) == 0 {
			a = anyEntries(r, r.Intn(20))
		}
		if ofLink(t, a, b, link) {
			met++
		}
	}
	seen(t, met)
}

// P13.4, R1: many entries, and long ones.
func TestLinkOfMany(t *testing.T) {
	met := 0
	long := bytes.Repeat([]byte("long"), 1<<17)
	for _, l := range [][][]byte{list(1<<12 - 1), list(1 << 12), list(1<<12 + 1), {long}, {nil, long, nil}} {
		for _, from := range []int{1, len(l)/2 + 1, len(l)} {
			link := linkOf(l, from)
			asked(t, ofLink(t, l[:from], l, link), false)
			ofLink(t, with(l[:from], from-1, []byte("other")), l, link)
			n, found := first(t, func(n int) bool { return leaves.Leaf(entry(n+5000)) == leaves.Leaf(l[from-1]) })
			met += asked(t, ofLink(t, with(l[:from], from-1, entry(n+5000)), l, link), found)
		}
	}
	if _, told := clashes.Link(list(1<<12), list(1<<12-1), nil); told {
		t.Error("of more than there are: true")
	}
	seen(t, met)
}
