package stores_test

import (
	"bytes"
	"slices"
	"testing"

	"almoner/api"
	"almoner/disks"
	"almoner/stores"
)

// call of a disk: Sync, or Write.
type call struct {
	sync bool
	n    int
	b    []byte
}

// syncs is a call of Sync, writes one of Write.
func syncs() call { return call{sync: true} }

func writes(n int, b []byte) call { return call{n: n, b: b} }

// puts are calls of Write, by the document's words, of a record's frame from a sector on.
func puts(t *testing.T, at, num int, record []byte) (first call, others []call) {
	t.Helper()
	d := made(t, at+5)
	end := framed(t, d, at, num, record)
	for n := at; n < end; n++ {
		b, _ := d.Read(n)
		others = append(others, writes(n, b))
	}
	return others[0], others[1:]
}

// fused is d, with so many calls that are let be.
func fused(d *disks.Disk, lets int) *disks.Disk {
	d.Fuse(lets)
	return d
}

// ask calls the disk so, up to the call that is not let be.
func ask(d *disks.Disk, calls []call) {
	for _, c := range calls {
		e := api.OK
		if c.sync {
			e = d.Sync()
		} else {
			e = d.Write(c.n, c.b)
		}
		if e != api.OK {
			return
		}
	}
}

// looks is what can be seen of a disk: what is read, and what is left of it if none, all, or one of those that wait is kept.
func looks(d *disks.Disk) [][]byte {
	var out [][]byte
	look := func(d *disks.Disk) {
		for n := range d.Len() {
			b, _ := d.Read(n)
			out = append(out, b)
		}
	}
	look(d)
	for n := range d.Waits() {
		kept := make([]bool, d.Waits())
		kept[n] = true
		left, _ := d.Fail(kept)
		look(left)
	}
	none, _ := d.Fail(nil)
	look(none)
	return out
}

// same fails the test if the two disks are unlike, or their fuses: then both are used up.
func same(t *testing.T, what string, got, want *disks.Disk) {
	t.Helper()
	if got.Len() != want.Len() || got.Waits() != want.Waits() || got.Blown() != want.Blown() {
		t.Fatalf("%s: %d sectors, %d wait, blown %v, not %d, %d, %v", what, got.Len(), got.Waits(), got.Blown(), want.Len(), want.Waits(), want.Blown())
	}
	if !slices.EqualFunc(looks(got), looks(want), bytes.Equal) {
		t.Fatalf("%s: unlike bytes are read, or left", what)
	}
	for range 12 {
		if g, w := got.Sync(), want.Sync(); g != w {
			t.Fatalf("%s: the fuse lets another number of calls be", what)
		}
	}
}

// place is a disk, and a store that stands there, if there is one already.
type place struct {
	d *disks.Disk
	s *stores.Store
}

// asks fails the test if what is done at a place does not call its disk just so, in this order, up to where a fuse blows; then it must be ErrState, else OK.
func asks(t *testing.T, what string, build func() place, do func(place) api.Errno, calls []call) {
	t.Helper()
	for lets := range len(calls) + 3 {
		got, want := build(), build()
		e := do(place{fused(got.d, lets), got.s})
		ask(fused(want.d, lets), calls)
		wanted := api.OK
		if lets < len(calls) {
			wanted = api.ErrState
		}
		if e != wanted {
			t.Fatalf("%s: if %d calls of %d are let be: %d, not %d", what, lets, len(calls), e, wanted)
		}
		same(t, what, got.d, want.d)
	}
}

// opens opens a region, and answers the error; there must be a store, or one.
func opens(t *testing.T, from, many int) func(place) api.Errno {
	return func(p place) api.Errno {
		s, e := stores.Open(p.d, from, many)
		if (s == nil) != (e != api.OK) {
			t.Fatalf("Open = %v, %d", s, e)
		}
		return e
	}
}

// P7.1: Open writes noughts just where there are none, in order, and then calls Sync, once; what waits elsewhere is made sure by that.
func TestOpenCalls(t *testing.T) {
	for soiled := range 32 {
		for _, many := range []int{2, 4, 6, 7, 20} {
			build := func() place {
				d := made(t, 25)
				end := framed(t, d, 1, 1, []byte("ab"))
				for n := range 5 {
					if soiled>>n&1 == 1 {
						answers(t, "Turn", d.Turn(end+n, n*15, 3), api.OK)
					}
				}
				answers(t, "Write", d.Write(24, []byte("cd")), api.OK)
				return place{d: d}
			}
			var calls []call
			for n := range min(5, many-1) {
				if soiled>>n&1 == 1 {
					calls = append(calls, writes(2+n, nil))
				}
			}
			asks(t, "Open", build, opens(t, 1, many), append(calls, syncs()))
		}
	}
}

// P7.1: nothing is written where frames stand; Sync is called all the same.
func TestOpenCallsOfFrames(t *testing.T) {
	build := func() place {
		d := made(t, 9)
		framed(t, d, framed(t, d, 0, 1, row(1, 256)), 2, row(2, 200))
		answers(t, "Write", d.Write(4, row(1, 256)[238:]), api.OK)
		return place{d: d}
	}
	for _, many := range []int{5, 9} {
		asks(t, "Open", build, opens(t, 0, many), []call{syncs()})
	}
}

// held are the records of a store ahead of one that is added, and behind which sector they end.
type held struct {
	records [][]byte
	end     int
}

// builds makes a store from sector 2 on that has records of so many bytes.
func builds(t *testing.T, sizes []int) (func() place, held) {
	h := held{end: 2}
	for i, n := range sizes {
		h.records = append(h.records, row(i, n))
		h.end += sectorsOf(h.records[i])
	}
	return func() place {
		d := made(t, 20)
		s := opened(t, d, 2, 15)
		for _, b := range h.records {
			answers(t, "Add", s.Add(b), api.OK)
		}
		return place{d, s}
	}, h
}

// P7.2: Add calls Sync; if there is more than one sector, Write of each but the first one, in order, and Sync; then Write of the first one, which waits. With ErrState the records are as they were.
func TestAddCalls(t *testing.T) {
	for _, n := range counts {
		for _, sizes := range [][]int{nil, {0}, {256}, {47, 5}} {
			record := row(99, n)
			build, h := builds(t, sizes)
			first, others := puts(t, h.end, len(sizes)+1, record)
			calls := []call{syncs()}
			if len(others) > 0 {
				calls = append(append(calls, others...), syncs())
			}
			asks(t, "Add", build, func(p place) api.Errno {
				e := p.s.Add(record)
				if e == api.OK {
					holds(t, p.s, 15, append(slices.Clone(h.records), record)...)
				} else {
					holds(t, p.s, 15, h.records...)
				}
				return e
			}, append(calls, first))
		}
	}
}

// P7.2: Sync is the disk's, whether there is anything that waits or not.
func TestSyncCalls(t *testing.T) {
	for _, sizes := range [][]int{nil, {0}, {256}, {47, 5}} {
		build, h := builds(t, sizes)
		asks(t, "Sync", build, func(p place) api.Errno {
			e := p.s.Sync()
			holds(t, p.s, 15, h.records...)
			return e
		}, []call{syncs()})
	}
}

// P7.2: a store that the disk lets not be calls no more, as long as the disk does not either; opened anew it goes on.
func TestDownAndOpened(t *testing.T) {
	for _, n := range counts {
		build, h := builds(t, []int{47, 5})
		for lets := range 3 {
			p := build()
			p.d.Fuse(lets)
			e := p.s.Add(row(99, n))
			if e == api.OK {
				continue
			}
			answers(t, "Add", e, api.ErrState)
			for range 3 {
				answers(t, "Add", p.s.Add(nil), api.ErrState)
				answers(t, "Sync", p.s.Sync(), api.ErrState)
				holds(t, p.s, 15, h.records...)
			}
			refuses(t, p.d, 2, 15, api.ErrState)
			p.d.Fuse(-1)
			s := opened(t, p.d, 2, 15)
			holds(t, s, 15, h.records...)
			answers(t, "Add", s.Add(row(99, n)), api.OK)
			holds(t, s, 15, append(h.records[:2:2], row(99, n))...)
		}
	}
}
