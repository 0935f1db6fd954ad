package stores_test

import (
	"bytes"
	"math/rand"
	"slices"
	"testing"

	"almoner/api"
	"almoner/disks"
	"almoner/frames"
	"almoner/stores"
)

// keptOf is which of so many writes are kept, by a number's bits.
func keptOf(n, bits int) []bool {
	kept := make([]bool, n)
	for i := range kept {
		kept[i] = bits>>i&1 == 1
	}
	return kept
}

// failed is what is left of d.
func failed(t *testing.T, d *disks.Disk, kept []bool) *disks.Disk {
	t.Helper()
	left, e := d.Fail(kept)
	answers(t, "Fail", e, api.OK)
	return left
}

// begins fails the test if a store's records are not the first ones of all, as many as are sure, or one more; it answers how many.
func begins(t *testing.T, s *stores.Store, many int, all [][]byte, sure int) int {
	t.Helper()
	n := s.Len()
	if n < sure || n > sure+1 || n > len(all) {
		t.Fatalf("there are %d records of %d, of which %d are sure", n, len(all), sure)
	}
	holds(t, s, many, all[:n]...)
	return n
}

// P7.4: wherever a fuse blows while a record is added, and whichever writes are kept, then wherever one blows while the region is opened, and whichever are kept then.
func TestFailsTwice(t *testing.T) {
	for _, n := range []int{0, 46, 47, 175, 256} {
		build, h := builds(t, []int{47, 5})
		all := append(slices.Clone(h.records), row(99, n))
		for lets := range 9 {
			p := build()
			p.d.Fuse(lets)
			sure := 1
			if lets > 0 {
				sure = 2
			}
			if e := p.s.Add(all[2]); (e == api.OK) != (lets >= sectorsOf(all[2])+min(2, sectorsOf(all[2]))) {
				t.Fatalf("Add of %d bytes, with %d calls: %d", n, lets, e)
			}
			for bits := range 1 << p.d.Waits() {
				d := failed(t, p.d, keptOf(p.d.Waits(), bits))
				failsOpening(t, d, all, sure)
			}
		}
	}
}

// failsOpening opens a region wherever a fuse blows, and again on what is left.
func failsOpening(t *testing.T, d *disks.Disk, all [][]byte, sure int) {
	t.Helper()
	n := begins(t, opened(t, failed(t, d, nil), 2, 15), 15, all, sure)
	for lets := range 7 {
		d := failed(t, d, nil)
		d.Fuse(lets)
		_, e := stores.Open(d, 2, 15)
		if e != api.OK && e != api.ErrState {
			t.Fatalf("Open = %d", e)
		}
		for bits := range 1 << d.Waits() {
			s := opened(t, failed(t, d, keptOf(d.Waits(), bits)), 2, 15)
			if again := begins(t, s, 15, all, sure); again != n {
				t.Fatalf("there were %d records, now there are %d", n, again)
			}
			answers(t, "Add", s.Add(row(5, 200)), api.OK)
			holds(t, s, 15, append(slices.Clone(all[:n]), row(5, 200))...)
		}
	}
}

// sly is a record in whose frame each sector but the first one is, or begins, the frame of a record by one of these numbers.
func sly(nums ...uint64) []byte {
	out := bytes.Repeat([]byte{7}, 46)
	for i, num := range nums {
		f, _ := frames.Put(num, bytes.Repeat([]byte{byte(i)}, 46))
		out = append(out, f...)
	}
	return out[:min(len(out), 256)]
}

// P7.4: what is left of a frame is no record, though it looks like some, neither as it is nor behind those that are added later.
func TestSlyRecords(t *testing.T) {
	for _, record := range [][]byte{sly(1, 1, 1), sly(2, 2, 2), sly(2, 3, 4), sly(1, 2, 3), sly(3, 3, 3), sly(2, 2, 3, 3)} {
		for lets := range 8 {
			for bits := range 32 {
				d := made(t, 12)
				s := opened(t, d, 0, 12)
				d.Fuse(lets)
				e := s.Add(record)
				left := failed(t, d, keptOf(d.Waits(), bits))
				again := opened(t, left, 0, 12)
				all := [][]byte{record}
				if e != api.OK {
					all = nil
				}
				all = slices.Clone(all[:begins(t, again, 12, all, 0)])
				for n := range 2 {
					all = append(all, row(n, 3))
					answers(t, "Add", again.Add(all[len(all)-1]), api.OK)
					begins(t, opened(t, failed(t, left, []bool{true}), 0, 12), 12, all, len(all))
					begins(t, opened(t, failed(t, left, nil), 0, 12), 12, all, len(all)-1)
				}
			}
		}
	}
}

// P7.4: neither does a store leave anything else if it is asked again when the disk lets it be: nothing that was not added, and not a record twice.
func TestAskedAgain(t *testing.T) {
	for _, record := range [][]byte{sly(2, 2, 2), sly(3, 3, 3), sly(2, 3, 4), row(4, 256), row(4, 47)} {
		for lets := range 8 {
			d := made(t, 12)
			s := opened(t, d, 0, 12)
			d.Fuse(lets)
			var all [][]byte
			for _, b := range [][]byte{record, []byte("ab"), []byte("cd")} {
				if s.Add(b) == api.OK {
					all = append(all, b)
				}
				d.Fuse(-1)
			}
			s.Sync()
			for bits := range 32 {
				begins(t, opened(t, failed(t, d, keptOf(d.Waits(), bits)), 0, 12), 12, all, max(0, len(all)-1))
			}
		}
	}
}

// life is a region that is opened, added to, and fails, at random.
type life struct {
	t          *testing.T
	r          *rand.Rand
	d          *disks.Disk
	s          *stores.Store
	from, many int
	all        [][]byte // what was added
	sure       int      // how many of these must be there
	down       bool     // did the disk let one not be, since the region was opened?
}

// record is one of any size, that may look like frames.
func (l *life) record() []byte {
	if l.r.Intn(3) == 0 {
		next := uint64(len(l.all) + 1)
		return sly(next+uint64(l.r.Intn(3)), next+uint64(l.r.Intn(3)), next+uint64(l.r.Intn(3)))
	}
	b := make([]byte, l.r.Intn(257))
	l.r.Read(b)
	return b
}

// add adds a record, if the disk lets it be.
func (l *life) add() {
	b := l.record()
	want := api.OK
	if sectorsOf(b) > l.s.Left() {
		want = api.ErrFull
	}
	e := l.s.Add(b)
	if e == api.OK {
		l.sure = len(l.all)
		l.all = append(l.all, b)
	}
	l.down = l.down || l.d.Blown()
	if e != want && (e != api.ErrState || !l.down) {
		l.t.Fatalf("Add of %d bytes = %d, not %d", len(b), e, want)
	}
}

// sync makes sure what was added, if the disk lets it be.
func (l *life) sync() {
	e := l.s.Sync()
	if e == api.OK {
		l.sure = len(l.all)
	}
	l.down = l.down || l.d.Blown()
	if e != api.OK && !l.down {
		l.t.Fatalf("Sync = %d", e)
	}
}

// fail loses what waits, or some of it, and opens what is left; meanwhile it may fail again.
func (l *life) fail() {
	for {
		kept := keptOf(l.d.Waits(), l.r.Int())
		l.d = failed(l.t, l.d, kept)
		if l.r.Intn(3) > 0 {
			break
		}
		l.d.Fuse(l.r.Intn(6))
		if _, e := stores.Open(l.d, l.from, l.many); e != api.OK && e != api.ErrState {
			l.t.Fatalf("Open = %d", e)
		}
	}
	l.s = opened(l.t, l.d, l.from, l.many)
	l.all = l.all[:begins(l.t, l.s, l.many, l.all, l.sure)]
	l.sure, l.down = len(l.all), false
}

// P7.4: random calls, fuses and losses: what was made sure is there, and at most one more.
func TestLives(t *testing.T) {
	r := rand.New(rand.NewSource(74))
	for range 300 {
		l := &life{t: t, r: r, from: r.Intn(5), many: 1 + r.Intn(90)}
		l.d = made(t, l.from+l.many+r.Intn(3))
		l.s = opened(t, l.d, l.from, l.many)
		for range 120 {
			switch r.Intn(12) {
			case 0:
				l.fail()
			case 1:
				l.sync()
			case 2:
				l.d.Fuse(r.Intn(9) - 1)
			default:
				l.add()
			}
			holds(t, l.s, l.many, l.all...)
		}
		l.fail()
	}
}

// P7.4: two stores on one disk, one behind the other, don't harm one another: what one of them makes sure, is for both.
func TestTwoRegions(t *testing.T) {
	d := made(t, 20)
	first, second := opened(t, d, 0, 10), opened(t, d, 10, 10)
	var all [2][][]byte
	for n := range 4 {
		b := row(n, 20*n)
		answers(t, "Add", first.Add(b), api.OK)
		all[0] = append(all[0], b)
		left := failed(t, d, nil)
		holds(t, opened(t, left, 0, 10), 10, all[0][:n]...)
		holds(t, opened(t, left, 10, 10), 10, all[1]...)
		answers(t, "Add", second.Add(b), api.OK)
		all[1] = append(all[1], b)
		left = failed(t, d, nil)
		holds(t, opened(t, left, 0, 10), 10, all[0]...)
		holds(t, opened(t, left, 10, 10), 10, all[1][:n]...)
	}
	answers(t, "Sync", first.Sync(), api.OK)
	left := failed(t, d, nil)
	holds(t, opened(t, left, 0, 10), 10, all[0]...)
	holds(t, opened(t, left, 10, 10), 10, all[1]...)
}
