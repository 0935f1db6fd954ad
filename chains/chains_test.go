package chains_test

import (
	"bytes"
	"crypto/sha256"
	"encoding/hex"
	"math"
	"math/rand"
	"slices"
	"testing"

	"almoner/api"
	"almoner/chains"
	"almoner/leaves"
)

// log is what a chain should be: its entries, of which all else is worked out anew, by the document's words.
type log [][]byte

// wantedLeaf is a leaf's sum by the document's words.
func wantedLeaf(b []byte) api.Sum { return sha256.Sum256(slices.Concat([]byte{0}, b)) }

// wantedNode is a node's sum by the document's words.
func wantedNode(l, r api.Sum) api.Sum {
	return sha256.Sum256(slices.Concat([]byte{1}, l[:], r[:]))
}

// less is the greatest power of two that is less than so many, two at least.
func less(many int) int {
	k := 1
	for k*2 < many {
		k *= 2
	}
	return k
}

// mark is that of all of the log.
func (l log) mark() api.Sum {
	var mark api.Sum
	for _, b := range l {
		leaf := wantedLeaf(b)
		mark = sha256.Sum256(slices.Concat(mark[:], leaf[:]))
	}
	return mark
}

// root is that of all of the log.
func (l log) root() api.Sum {
	switch len(l) {
	case 0:
		return sha256.Sum256(nil)
	case 1:
		return wantedLeaf(l[0])
	}
	k := less(len(l))
	return wantedNode(l[:k].root(), l[k:].root())
}

// path is that of the entry at a place that there is.
func (l log) path(at int) []api.Sum {
	if len(l) == 1 {
		return nil
	}
	k := less(len(l))
	if at < k {
		return append(l[:k].path(at), l[k:].root())
	}
	return append(l[k:].path(at-k), l[:k].root())
}

// link is that of the first ones, one at least and no more than all; edge: all that is below is whole, too.
func (l log) link(from int, edge bool) []api.Sum {
	switch {
	case from == len(l) && edge:
		return nil
	case from == len(l):
		return []api.Sum{l.root()}
	}
	k := less(len(l))
	if from <= k {
		return append(l[:k].link(from, edge), l[k:].root())
	}
	return append(l[k:].link(from-k, false), l[:k].root())
}

// row is so many bytes, others for each number.
func row(n, many int) []byte {
	b := make([]byte, many)
	for i := range b {
		b[i] = byte(n*7 + n>>8 + i*13 + i>>8)
	}
	return b
}

// written is a log of so many entries, of a few bytes each, no two the same.
func written(many int) log {
	l := make(log, many)
	for i := range l {
		l[i] = append(row(i, i%40), byte(i), byte(i>>8), 'e')
	}
	return l
}

// add makes the entries stand in the chain.
func add(t *testing.T, c *chains.Chain, l ...[]byte) {
	t.Helper()
	for i, b := range l {
		if e := c.Add(b); e != api.OK {
			t.Fatalf("Add of the entry %d = %v", i, e)
		}
	}
}

// made is a chain of these entries.
func made(t *testing.T, l ...[]byte) *chains.Chain {
	t.Helper()
	c := chains.New()
	add(t, c, l...)
	return c
}

// entry fails the test if the n-th entry is not that, or is there where the error says that it isn't.
func entry(t *testing.T, c *chains.Chain, n uint64, want []byte, e api.Errno) {
	t.Helper()
	if b, got := c.Entry(n); !bytes.Equal(b, want) || got != e {
		t.Errorf("of %d entries: Entry(%d) = %x, %v; wanted %x, %v", c.Size(), n, b, got, want, e)
	}
}

// mark fails the test if the mark of the first n is not that.
func mark(t *testing.T, c *chains.Chain, n uint64, want api.Sum, e api.Errno) {
	t.Helper()
	if s, got := c.Mark(n); s != want || got != e {
		t.Errorf("of %d entries: Mark(%d) = %x, %v; wanted %x, %v", c.Size(), n, s, got, want, e)
	}
}

// root fails the test if the root of the first ones is not that.
func root(t *testing.T, c *chains.Chain, size uint64, want api.Sum, e api.Errno) {
	t.Helper()
	if s, got := c.Root(size); s != want || got != e {
		t.Errorf("of %d entries: Root(%d) = %x, %v; wanted %x, %v", c.Size(), size, s, got, want, e)
	}
}

// path fails the test if the path of that place in the first ones is not that.
func path(t *testing.T, c *chains.Chain, at, size uint64, want []api.Sum, e api.Errno) {
	t.Helper()
	if l, got := c.Path(at, size); !slices.Equal(l, want) || got != e {
		t.Errorf("of %d entries: Path(%d, %d) = %x, %v; wanted %x, %v", c.Size(), at, size, l, got, want, e)
	}
}

// link fails the test if the link from those to the first ones is not that.
func link(t *testing.T, c *chains.Chain, from, size uint64, want []api.Sum, e api.Errno) {
	t.Helper()
	if l, got := c.Link(from, size); !slices.Equal(l, want) || got != e {
		t.Errorf("of %d entries: Link(%d, %d) = %x, %v; wanted %x, %v", c.Size(), from, size, l, got, want, e)
	}
}

// beyond are numbers that are greater than so many: the next ones, and far greater ones, those too whose last bits are a number of the first ones.
func beyond(many int) []uint64 {
	n := uint64(many)
	all := []uint64{n + 1, n + 2, 2*n + 1, n + 255, n + 1<<16}
	for _, far := range []uint64{1 << 31, 1 << 32, 1 << 63} {
		all = append(all, far-1, far, far+1, far+n/2, far+n, far+n+1)
	}
	return append(all, math.MaxUint64-n, math.MaxUint64-1, math.MaxUint64)
}

// holdsAt fails the test if of the first ones of that size something else is told, at these places.
func holdsAt(t *testing.T, c *chains.Chain, l log, size int, places ...int) {
	t.Helper()
	n, first := uint64(size), l[:size]
	mark(t, c, n, first.mark(), api.OK)
	root(t, c, n, first.root(), api.OK)
	for _, at := range places {
		if at >= 0 && at < size {
			path(t, c, uint64(at), n, first.path(at), api.OK)
		}
		if at > 0 && at <= size {
			link(t, c, uint64(at), n, first.link(at, true), api.OK)
		}
	}
	path(t, c, n, n, nil, api.ErrArg)
	link(t, c, 0, n, nil, api.ErrArg)
	link(t, c, n+1, n, nil, api.ErrArg)
}

// holds fails the test if the chain is not that log, of which everything is asked.
func holds(t *testing.T, c *chains.Chain, l log) {
	t.Helper()
	if c.Size() != uint64(len(l)) {
		t.Fatalf("Size = %d, wanted %d", c.Size(), len(l))
	}
	for i, b := range l {
		entry(t, c, uint64(i), b, api.OK)
	}
	entry(t, c, uint64(len(l)), nil, api.ErrArg)
	places := make([]int, len(l)+1)
	for i := range places {
		places[i] = i
	}
	for size := range len(l) + 1 {
		holdsAt(t, c, l, size, places...)
	}
	for _, far := range beyond(len(l)) {
		entry(t, c, far, nil, api.ErrArg)
		mark(t, c, far, api.Sum{}, api.ErrArg)
		root(t, c, far, api.Sum{}, api.ErrArg)
	}
}

// P12.1: a chain without entries: there is no first one, its mark is noughts, its root is that of no leaves, and it has neither paths nor links.
func TestNew(t *testing.T) {
	c := chains.New()
	if c == nil {
		t.Fatal("no chain")
	}
	for range 2 {
		holds(t, c, nil)
	}
	if e, _ := c.Root(0); e != leaves.Root(nil) {
		t.Errorf("Root(0) = %x", e)
	}
}

// P12.1, R5: each call makes a chain of its own.
func TestNewEachTime(t *testing.T) {
	one, other := chains.New(), chains.New()
	add(t, one, row(1, 5))
	holds(t, other, nil)
	add(t, other, row(2, 6), row(3, 7))
	holds(t, one, log{row(1, 5)})
	holds(t, other, log{row(2, 6), row(3, 7)})
	holds(t, chains.New(), nil)
}

// P12.2, P12.3, P12.4: what the document tells of two entries.
func TestExamples(t *testing.T) {
	a, b := []byte("a"), []byte("bb")
	c := made(t, a, b)
	if c.Size() != 2 {
		t.Errorf("Size = %d", c.Size())
	}
	entry(t, c, 1, b, api.OK)
	entry(t, c, 2, nil, api.ErrArg)
	mark(t, c, 0, api.Sum{}, api.OK)
	mark(t, c, 3, api.Sum{}, api.ErrArg)
	root(t, c, 1, leaves.Leaf(a), api.OK)
	path(t, c, 0, 2, []api.Sum{leaves.Leaf(b)}, api.OK)
	link(t, c, 1, 2, []api.Sum{leaves.Leaf(b)}, api.OK)
	link(t, c, 0, 2, nil, api.ErrArg)
}

// P12.2: an entry stands behind all others, whatever bytes it has: none, one, many, just as many as may be.
func TestAdd(t *testing.T) {
	var l log
	c := chains.New()
	for i, many := range []int{0, 1, 0, 2, 31, 32, 33, 63, 64, 65, 255, 256, 257, api.MaxBytes - 1, api.MaxBytes, 0, 1} {
		l = append(l, row(i, many))
		add(t, c, l[i])
		holds(t, c, l)
	}
}

// P12.2: an entry of one byte more than may be, or of far more, is not added, and nothing is another one by that.
func TestAddTooMany(t *testing.T) {
	var l log
	c := chains.New()
	for i := range 6 {
		for _, many := range []int{api.MaxBytes + 1, api.MaxBytes + 2, api.MaxBytes * 2, 1<<16 + 1, 1 << 20} {
			if e := c.Add(make([]byte, many)); e != api.ErrLimit {
				t.Errorf("Add of %d bytes = %v", many, e)
			}
			holds(t, c, l)
		}
		l = append(l, row(i, api.MaxBytes))
		add(t, c, l[i])
		holds(t, c, l)
	}
}

// P12.2: what is no byte of the entry, room behind it, is not counted.
func TestAddWithRoom(t *testing.T) {
	b := row(1, api.MaxBytes*2)
	holds(t, made(t, b[:api.MaxBytes], b[:0], b[7:9]), log{b[:api.MaxBytes], nil, b[7:9]})
}

// P12.2, P12.3: entries that are alike are entries each.
func TestAlike(t *testing.T) {
	for _, b := range [][]byte{nil, {}, {0}, make([]byte, 32), make([]byte, 64), row(1, 300)} {
		var l log
		c := chains.New()
		for range 10 {
			l = append(l, b)
			add(t, c, b)
		}
		holds(t, c, l)
		seen := map[api.Sum]bool{}
		for n := range uint64(11) {
			s, _ := c.Mark(n)
			if seen[s] {
				t.Errorf("of %d entries alike the mark is an earlier one's", n)
			}
			seen[s] = true
		}
	}
}

// P12.2, P12.3: no entries and empty ones are told apart, and so are the bytes of two entries from those of one.
func TestWhereEntriesEnd(t *testing.T) {
	both := row(3, 12)
	seen := map[api.Sum]int{}
	for i, l := range []log{{}, {nil}, {nil, nil}, {both}, {both, nil}, {nil, both}, {both[:5], both[5:]}, {both[:6], both[6:]}, {both[6:], both[:6]}} {
		c := made(t, l...)
		holds(t, c, l)
		s, _ := c.Mark(c.Size())
		if other, there := seen[s]; there {
			t.Errorf("the logs %d and %d have one mark", other, i)
		}
		seen[s] = i
	}
}

// P12.3: the marks, by numbers that are written out: of none, of an entry without bytes, of that and "a".
func TestKnownMarks(t *testing.T) {
	c := made(t, nil, []byte("a"))
	for n, text := range []string{
		"0000000000000000000000000000000000000000000000000000000000000000",
		"64fdb2b463190df45dc976206ce8111d8c83680ddeb86778b7f9982d6822de6a",
		"efd00515cd9b1b61c36a7dc6243a2dce9b4b034415ee3e3927a9c4b3ba6bc067",
	} {
		mark(t, c, uint64(n), digits(t, text), api.OK)
	}
}

// P12.3, P12.4: everything, of each number of entries, none and round each power of two.
func TestEachSize(t *testing.T) {
	for n := range 36 {
		l := written(n)
		holds(t, made(t, l...), l)
	}
}

// P12.3, P12.4: everything, step by step: of a chain that grows the same is told as of one that is made at once.
func TestGrown(t *testing.T) {
	l := written(34)
	c := chains.New()
	for n := range l {
		holds(t, c, l[:n])
		add(t, c, l[n])
	}
	holds(t, c, l)
}

// P12.3, P12.4: likewise of many entries, round greater powers of two.
func TestMany(t *testing.T) {
	l := written(1100)
	c := made(t, l...)
	for i, b := range l {
		entry(t, c, uint64(i), b, api.OK)
	}
	for _, power := range []int{64, 128, 256, 512, 1024} {
		for size := power - 2; size <= power+2; size++ {
			holdsAt(t, c, l, size, 0, 1, 2, power/2-1, power/2, power/2+1, size-2, size-1, size)
			holdsAt(t, made(t, l[:size]...), l, size, 0, 1, power/2, size-1, size)
		}
	}
	for _, size := range []int{700, 1099, 1100} {
		holdsAt(t, c, l, size, 0, 1, 3, 300, 511, 512, 513, 699, 700, 1023, 1024, 1025, 1099, 1100)
	}
}

// P12.3, P12.4: any entries, asked for anything, between one another.
func TestAny(t *testing.T) {
	r := rand.New(rand.NewSource(12))
	for range 30 {
		var l log
		c := chains.New()
		for range 60 {
			b := make([]byte, r.Intn(50))
			r.Read(b)
			l = append(l, b)
			add(t, c, b)
			size := r.Intn(len(l) + 1)
			holdsAt(t, c, l, size, r.Intn(len(l)), r.Intn(len(l)), r.Intn(len(l)))
			at := r.Intn(len(l))
			entry(t, c, uint64(at), l[at], api.OK)
		}
	}
}

// P12.4: a size that is more than there are is an error, of all calls, whatever place is asked for, and so is a place that isn't there, how far ever; also R1.
func TestBeyond(t *testing.T) {
	for _, n := range []int{0, 1, 2, 3, 8, 9} {
		l := written(n)
		c := made(t, l...)
		for _, size := range beyond(n) {
			for _, at := range append(beyond(n), 0, 1, 2, uint64(n)) {
				path(t, c, at, size, nil, api.ErrArg)
				link(t, c, at, size, nil, api.ErrArg)
			}
		}
		for size := range uint64(n + 1) {
			for _, at := range append(beyond(n), uint64(n+1), size+1) {
				path(t, c, at, size, nil, api.ErrArg)
				link(t, c, at, size, nil, api.ErrArg)
			}
			path(t, c, size, size, nil, api.ErrArg)
		}
		holds(t, c, l)
	}
}

// P12.4: the roots and a link that logs of RFC 6962 are tested by.
func TestKnownLog(t *testing.T) {
	c := chains.New()
	for i, known := range []struct{ entry, root string }{
		{"", "6e340b9cffb37a989ca544e6bb780a2c78901d3fb33738768511a30617afa01d"},
		{"00", "fac54203e7cc696cf0dfcb42c92a1d9dbaf70ad9e621f4bd8d98662f00e3c125"},
		{"10", "aeb6bcfe274b70a14fb067a5e5578264db0fa9b51af5e0ba159158f329e06e77"},
		{"2021", "d37ee418976dd95753c1c73862b9398fa2a2cf9b4ff0fdfe8b30cd95209614b7"},
		{"3031", "4e3bbb1f7b478dcfe71fb631631519a3bca12c9aefca1612bfce4c13a86264d4"},
		{"40414243", "76e67dadbcdf1e10e1b74ddc608abd2f98dfb16fbce75277b5232a127f2087ef"},
		{"5051525354555657", "ddb89be403809e325750d3d263cd78929c2942b7942a34b77e122c9594a74c8c"},
		{"606162636465666768696a6b6c6d6e6f", "5dc9da79a70659a9ad559cb701ded9a2ab9d823aad2f4960cfe370eff4604328"},
	} {
		b, err := hex.DecodeString(known.entry)
		if err != nil {
			t.Fatal(err)
		}
		add(t, c, b)
		root(t, c, uint64(i+1), digits(t, known.root), api.OK)
	}
	root(t, c, 3, digits(t, "aeb6bcfe274b70a14fb067a5e5578264db0fa9b51af5e0ba159158f329e06e77"), api.OK)
	link(t, c, 2, 5, []api.Sum{
		digits(t, "5f083f0a1a33ca076a95279832580db3e0ef4584bdff1f54c8a360f50de3031e"),
		digits(t, "bc1a0643b12e4d2d7c77918f44e0f4f79a838b6cf9ec5b5c283e1f4d88599e6b"),
	}, api.OK)
	path(t, c, 0, 8, []api.Sum{
		digits(t, "96a296d224f285c67bee93c30f8a309157f0daa35dc5b87e410b78630a09cfc7"),
		digits(t, "5f083f0a1a33ca076a95279832580db3e0ef4584bdff1f54c8a360f50de3031e"),
		digits(t, "6b47aaf29ee3c2af9af889bc1fb9254dabd31177f16232dd6aab035ca39bf6e4"),
	}, api.OK)
}

// digits is a sum by its digits.
func digits(t *testing.T, text string) api.Sum {
	t.Helper()
	b, err := hex.DecodeString(text)
	if err != nil || len(b) != len(api.Sum{}) {
		t.Fatalf("%q is no sum", text)
	}
	return api.Sum(b)
}
