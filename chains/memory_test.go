package chains_test

import (
	"bytes"
	"math"
	"slices"
	"sync"
	"testing"

	"almoner/api"
	"almoner/chains"
)

// R3: a chain that is not there, and one that no call made: ErrNil ahead of each other error, noughts else, and it stays so.
func TestNoChain(t *testing.T) {
	for name, c := range map[string]*chains.Chain{"nil": nil, "zero": {}, "new": new(chains.Chain)} {
		t.Run(name, func(t *testing.T) {
			for range 2 {
				for _, many := range []int{0, 1, api.MaxBytes, api.MaxBytes + 1, 1 << 17} {
					if e := c.Add(make([]byte, many)); e != api.ErrNil {
						t.Errorf("Add of %d bytes = %v", many, e)
					}
				}
				if c.Size() != 0 {
					t.Errorf("Size = %d", c.Size())
				}
				for _, n := range []uint64{0, 1, 2, math.MaxInt64, 1 << 63, math.MaxUint64} {
					entry(t, c, n, nil, api.ErrNil)
					mark(t, c, n, api.Sum{}, api.ErrNil)
					root(t, c, n, api.Sum{}, api.ErrNil)
					for _, size := range []uint64{0, 1, 2, math.MaxInt64, 1 << 63, math.MaxUint64} {
						path(t, c, n, size, nil, api.ErrNil)
						link(t, c, n, size, nil, api.ErrNil)
					}
				}
			}
		})
	}
}

// R4: what is handed in is not changed, its spare room neither, whether it is added or not.
func TestAddedStays(t *testing.T) {
	l := row(5, api.MaxBytes*2)
	c := chains.New()
	for _, many := range []int{0, 1, 31, 32, 100, api.MaxBytes - 1, api.MaxBytes, api.MaxBytes + 1, api.MaxBytes * 2} {
		c.Add(l[:many])
		if !bytes.Equal(l, row(5, api.MaxBytes*2)) {
			t.Fatalf("of %d bytes: what was handed in is another one", many)
		}
	}
}

// R4: an entry is kept by its content: whatever becomes of that memory, of one behind the other, the chain stays.
func TestAddedByContent(t *testing.T) {
	var l log
	c := chains.New()
	b := make([]byte, 60)
	for n := range 12 {
		many := n * 5
		copy(b, row(n, 60))
		l = append(l, row(n, 60)[:many])
		add(t, c, b[:many])
		for i := range b {
			b[i] ^= 0x5a
		}
		holds(t, c, l)
	}
}

// overwrite changes all of a list of bytes, its spare room too.
func overwrite(b []byte) {
	b = b[:cap(b)]
	for i := range b {
		b[i] ^= 0x5a
	}
}

// overwriteSums changes all of a list of sums, its spare room too.
func overwriteSums(l []api.Sum) {
	l = l[:cap(l)]
	for i := range l {
		overwrite(l[i][:])
	}
}

// R4: an entry that whoever asked turns, or puts more behind, changes nothing: neither the chain, nor what was added, nor another answer.
func TestEntryIsNew(t *testing.T) {
	l := written(12)
	c := made(t, l...)
	for n := range l {
		one, _ := c.Entry(uint64(n))
		other, _ := c.Entry(uint64(n))
		overwrite(one)
		_ = append(one, 1, 2, 3)
		if !bytes.Equal(other, written(12)[n]) {
			t.Errorf("the entry %d that was told twice shares memory", n)
		}
		if !bytes.Equal(l[n], written(12)[n]) {
			t.Errorf("the entry %d shares memory with what was added", n)
		}
		entry(t, c, uint64(n), l[n], api.OK)
		overwrite(other)
	}
	holds(t, c, written(12))
}

// R4: a path or a link that whoever asked turns, writes over, or puts more behind, changes nothing, nor do two share memory.
func TestListsAreNew(t *testing.T) {
	l := written(14)
	c := made(t, l...)
	for _, change := range []func([]api.Sum){slices.Reverse[[]api.Sum], overwriteSums, func(l []api.Sum) { _ = append(l, api.Sum{1}, api.Sum{2}) }} {
		for size := 1; size <= len(l); size++ {
			n := uint64(size)
			for at := range n {
				way, _ := c.Path(at, n)
				otherWay, _ := c.Path(at, n)
				tie, _ := c.Link(at+1, n)
				otherTie, _ := c.Link(at+1, n)
				change(way)
				change(tie)
				if !slices.Equal(otherWay, l[:size].path(int(at))) || !slices.Equal(otherTie, l[:size].link(int(at)+1, true)) {
					t.Errorf("what is told of %d and %d twice shares memory", at, n)
				}
			}
		}
		holds(t, c, l)
	}
}

// R4: what was told stays, whatever is added.
func TestToldStays(t *testing.T) {
	l := written(40)
	c := made(t, l[:20]...)
	before := tells(t, c, 20)
	again := tells(t, made(t, l[:20]...), 20)
	add(t, c, l[20:]...)
	if !same(before, again) {
		t.Error("what was told is something else by now")
	}
}

// R5: what is answered hangs on nothing that was asked before, whatever it was.
func TestAskedBetween(t *testing.T) {
	l := written(9)
	c := made(t, l...)
	other := made(t, written(30)...)
	for _, between := range []func(){
		func() { c.Root(0) },
		func() { c.Root(5) },
		func() { c.Root(10) },
		func() { c.Path(3, 4) },
		func() { c.Path(4, 4) },
		func() { c.Link(0, 9) },
		func() { c.Link(3, 8) },
		func() { c.Mark(math.MaxUint64) },
		func() { c.Entry(9) },
		func() { c.Add(make([]byte, api.MaxBytes+1)) },
		func() { other.Add(nil) },
		func() { other.Link(9, 30) },
		func() { chains.New().Add([]byte("a")) },
	} {
		between()
		holds(t, c, l)
	}
}

// R5: chains at the same time, of the same entries, are each as one alone; and of one chain many may ask at once.
func TestAtTheSameTime(t *testing.T) {
	l := written(20)
	all := made(t, l...)
	var group sync.WaitGroup
	for range 8 {
		group.Go(func() {
			c := chains.New()
			for n, b := range l {
				if e := c.Add(b); e != api.OK {
					t.Errorf("Add = %v", e)
				}
				holdsAt(t, c, l, n+1, 0, n/2, n, n+1)
				holdsAt(t, all, l, n+1, 0, n/2, n, n+1)
			}
		})
	}
	group.Wait()
}
