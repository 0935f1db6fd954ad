package stores_test

import (
	"bytes"
	"math"
	"sync"
	"testing"

	"almoner/api"
	"almoner/disks"
	"almoner/stores"
)

// R3: a store that is not there, and one that no call made: ErrNil ahead of each other error, noughts else, and it stays so.
func TestNoStore(t *testing.T) {
	for name, s := range map[string]*stores.Store{"nil": nil, "zero": {}, "new": new(stores.Store)} {
		for range 2 {
			for _, n := range []int{0, 1, 256, 257, 70000} {
				answers(t, name+": Add", s.Add(row(1, n)), api.ErrNil)
			}
			answers(t, name+": Add", s.Add(nil), api.ErrNil)
			answers(t, name+": Sync", s.Sync(), api.ErrNil)
			for _, n := range []int{math.MinInt, -1, 0, 1, math.MaxInt} {
				if b, e := s.Get(n); b != nil || e != api.ErrNil {
					t.Errorf("%s: Get(%d) = %v, %d", name, n, b, e)
				}
			}
			if s.Len() != 0 || s.Left() != 0 {
				t.Errorf("%s: Len = %d, Left = %d", name, s.Len(), s.Left())
			}
		}
	}
}

// R4: what is added is not changed, its spare room neither, and that is no part of it.
func TestAddedStays(t *testing.T) {
	for _, n := range counts {
		all := row(1, 400)
		s := opened(t, made(t, 9), 0, 9)
		answers(t, "Add", s.Add(all[:n]), api.OK)
		answers(t, "Add", s.Add(all[:257]), api.ErrLimit)
		if !bytes.Equal(all, row(1, 400)) {
			t.Errorf("of %d bytes: what was added is another one", n)
		}
		holds(t, s, 9, row(1, 400)[:n])
	}
}

// R4: what is added is kept by its content: whatever becomes of that memory later, the record is as it was, and so is the disk.
func TestAddedByContent(t *testing.T) {
	d := made(t, 9)
	s := opened(t, d, 0, 9)
	b := make([]byte, 100)
	for n := range 3 {
		copy(b, row(n, 100))
		answers(t, "Add", s.Add(b), api.OK)
		clear(b)
	}
	holds(t, s, 9, row(0, 100), row(1, 100), row(2, 100))
	holds(t, opened(t, d, 0, 9), 9, row(0, 100), row(1, 100), row(2, 100))
}

// R4: what is got is memory of its own, its spare room too: writing into it changes neither the store nor the disk nor another answer, whether the record was added or read.
func TestGotIsNew(t *testing.T) {
	d := made(t, 30)
	added := opened(t, d, 0, 30)
	var records [][]byte
	for i, n := range []int{0, 1, 47, 100, 256} {
		records = append(records, row(i, n))
		answers(t, "Add", added.Add(records[i]), api.OK)
	}
	read := opened(t, d, 0, 30)
	for _, s := range []*stores.Store{added, read} {
		for n := range records {
			first, _ := s.Get(n)
			second, _ := s.Get(n)
			first = first[:cap(first)]
			for i := range first {
				first[i] ^= 0x5a
			}
			if !bytes.Equal(second, records[n]) {
				t.Errorf("of record %d: another answer has changed", n)
			}
		}
		for _, s := range []*stores.Store{added, read, opened(t, d, 0, 30)} {
			holds(t, s, 30, records...)
		}
	}
}

// R4: what is got may be added again, to the same store and to another one.
func TestGotIsAdded(t *testing.T) {
	d := made(t, 20)
	s, other := opened(t, d, 0, 10), opened(t, d, 10, 10)
	answers(t, "Add", s.Add(row(1, 70)), api.OK)
	b, _ := s.Get(0)
	answers(t, "Add", s.Add(b), api.OK)
	answers(t, "Add", other.Add(b[7:]), api.OK)
	clear(b)
	holds(t, s, 10, row(1, 70), row(1, 70))
	holds(t, other, 10, row(1, 70)[7:])
}

// R5: stores of disks of their own do not know of one another, nor does one of what was left of a disk.
func TestTwoStores(t *testing.T) {
	d := made(t, 9)
	first := opened(t, d, 0, 9)
	answers(t, "Add", first.Add([]byte("ab")), api.OK)
	left := failed(t, d, []bool{true})
	second, third := opened(t, left, 0, 9), opened(t, made(t, 9), 0, 9)
	answers(t, "Fuse", left.Fuse(0), api.OK)
	answers(t, "Add", second.Add([]byte("cd")), api.ErrState)
	answers(t, "Add", first.Add([]byte("ef")), api.OK)
	answers(t, "Add", third.Add([]byte("gh")), api.OK)
	holds(t, first, 9, []byte("ab"), []byte("ef"))
	holds(t, second, 9, []byte("ab"))
	holds(t, third, 9, []byte("gh"))
}

// R5: stores that are used at the same time are as those that are used one by one.
func TestAtTheSameTime(t *testing.T) {
	var got [8]*stores.Store
	var group sync.WaitGroup
	for i := range got {
		group.Go(func() {
			d, _ := disks.New(50)
			for k := range 10 {
				s, _ := stores.Open(d, 0, 50)
				s.Add(row(i+k, 20*k))
				got[i] = s
			}
		})
	}
	group.Wait()
	for i, s := range got {
		var records [][]byte
		for k := range 10 {
			records = append(records, row(i+k, 20*k))
		}
		holds(t, s, 50, records...)
	}
}
