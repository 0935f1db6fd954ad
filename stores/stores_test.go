package stores_test

import (
	"bytes"
	"math"
	"slices"
	"testing"

	"almoner/api"
	"almoner/disks"
	"almoner/frames"
	"almoner/stores"
)

// counts are of records: none, some, those round which a frame needs a sector more, the most.
var counts = []int{0, 1, 46, 47, 110, 111, 174, 175, 238, 239, 255, 256}

// row is so many bytes, none of them a nought, unlike those of another first one.
func row(first, n int) []byte {
	b := make([]byte, n)
	for i := range b {
		b[i] = byte((first*31+i*7)%255 + 1)
	}
	return b
}

// sectorsOf is how many the frame of a record has, by the document's words.
func sectorsOf(record []byte) int { return (4 + 8 + 2 + 4 + len(record) + 63) / 64 }

// made is a disk of so many sectors.
func made(t *testing.T, n int) *disks.Disk {
	t.Helper()
	d, e := disks.New(n)
	if e != api.OK {
		t.Fatalf("disks.New(%d) = %d", n, e)
	}
	return d
}

// written makes a sector of a disk sure.
func written(t *testing.T, d *disks.Disk, n int, b []byte) {
	t.Helper()
	answers(t, "disks.Write", d.Write(n, b), api.OK)
	answers(t, "disks.Sync", d.Sync(), api.OK)
}

// framed makes a record's frame sure, from a sector of a disk on, and answers the sector behind it.
func framed(t *testing.T, d *disks.Disk, at, num int, record []byte) int {
	t.Helper()
	f, e := frames.Put(uint64(num), record)
	answers(t, "frames.Put", e, api.OK)
	for b := range slices.Chunk(f, 64) {
		if at < d.Len() {
			written(t, d, at, b)
		}
		at++
	}
	return at
}

// opened is the store of a region.
func opened(t *testing.T, d *disks.Disk, from, many int) *stores.Store {
	t.Helper()
	s, e := stores.Open(d, from, many)
	if e != api.OK || s == nil {
		t.Fatalf("Open(.., %d, %d) = %v, %d", from, many, s, e)
	}
	return s
}

// refuses fails the test if a region is opened, or the error is another one.
func refuses(t *testing.T, d *disks.Disk, from, many int, want api.Errno) {
	t.Helper()
	if s, e := stores.Open(d, from, many); s != nil || e != want {
		t.Errorf("Open(.., %d, %d) = %v, %d, not the error %d", from, many, s, e, want)
	}
}

// answers fails the test if an error isn't the wanted one.
func answers(t *testing.T, call string, got, want api.Errno) {
	t.Helper()
	if got != want {
		t.Fatalf("%s = %d, not %d", call, got, want)
	}
}

// holds fails the test if there are not just these records in a region of so many sectors.
func holds(t *testing.T, s *stores.Store, many int, records ...[]byte) {
	t.Helper()
	if s.Len() != len(records) {
		t.Fatalf("Len = %d, not %d", s.Len(), len(records))
	}
	for n, record := range records {
		if b, e := s.Get(n); !bytes.Equal(b, record) || e != api.OK {
			t.Errorf("Get(%d) = %v, %d, not %v", n, b, e, record)
		}
		many -= sectorsOf(record)
	}
	for _, n := range []int{math.MinInt, -1, len(records), len(records) + 1, math.MaxInt} {
		if b, e := s.Get(n); len(b) != 0 || e != api.ErrArg {
			t.Errorf("of %d records: Get(%d) = %v, %d", len(records), n, b, e)
		}
	}
	if s.Left() != many {
		t.Errorf("Left = %d, not %d", s.Left(), many)
	}
}

// P7.1, P7.2, P7.3: what the document's table tells.
func TestTold(t *testing.T) {
	d := made(t, 10)
	s := opened(t, d, 0, 10)
	holds(t, s, 10)
	answers(t, "Add", s.Add([]byte("ab")), api.OK)
	holds(t, s, 10, []byte("ab"))
	for i, kept := range [][]bool{nil, {true}} {
		left, _ := d.Fail(kept)
		if n := opened(t, left, 0, 10).Len(); n != i {
			t.Errorf("of %v kept: Len = %d", kept, n)
		}
	}
	answers(t, "Sync", s.Sync(), api.OK)
	answers(t, "Add", s.Add(row(1, 257)), api.ErrLimit)
	refuses(t, d, 5, 6, api.ErrArg)
}

// P7.1: ErrNil, if there is no disk, or none that a call made, whatever else is wrong.
func TestOpenNoDisk(t *testing.T) {
	for _, d := range []*disks.Disk{nil, {}, new(disks.Disk)} {
		for _, from := range []int{math.MinInt, -1, 0, 1, math.MaxInt} {
			for _, many := range []int{math.MinInt, -1, 0, 1, math.MaxInt} {
				refuses(t, d, from, many, api.ErrNil)
			}
		}
	}
}

// P7.1: ErrArg of what is no region of the disk, also where adding up would come round; the disk is as it was.
func TestOpenNoRegion(t *testing.T) {
	soiled := func() *disks.Disk {
		d := made(t, 7)
		for n := range 7 {
			written(t, d, n, row(n, 64))
		}
		return d
	}
	for _, c := range []struct{ from, many int }{
		{-1, 1}, {-1, 8}, {-7, 7}, {math.MinInt, 1}, {math.MinInt, math.MaxInt}, {math.MinInt, math.MinInt}, {-5, 12},
		{0, 0}, {3, 0}, {7, 0}, {0, -1}, {3, -1}, {7, -7}, {0, math.MinInt}, {6, math.MinInt}, {math.MaxInt, math.MinInt},
		{0, 8}, {1, 7}, {5, 3}, {6, 2}, {7, 1}, {8, 1}, {0, math.MaxInt}, {6, math.MaxInt}, {7, math.MaxInt}, {math.MaxInt, 1}, {math.MaxInt, math.MaxInt},
	} {
		d := soiled()
		answers(t, "Fuse", d.Fuse(0), api.OK)
		refuses(t, d, c.from, c.many, api.ErrArg)
		same(t, "of no region", d, fused(soiled(), 0))
	}
}

// P7.1: regions of all sizes and places, up to the disk's end; each is empty, and its own.
func TestOpenRegions(t *testing.T) {
	for from := range 7 {
		for many := 1; from+many <= 7; many++ {
			d := made(t, 7)
			s := opened(t, d, from, many)
			holds(t, s, many)
			var records [][]byte
			for n := range many {
				records = append(records, row(n, n))
				answers(t, "Add", s.Add(records[n]), api.OK)
			}
			answers(t, "Add", s.Add(nil), api.ErrFull)
			answers(t, "Sync", s.Sync(), api.OK)
			holds(t, opened(t, d, from, many), many, records...)
			for n := range 7 {
				b, _ := d.Read(n)
				if soiled := !bytes.Equal(b, make([]byte, 64)); soiled != (n >= from && n < from+many) {
					t.Errorf("region %d, %d: is there anything in sector %d: %v", from, many, n, soiled)
				}
			}
		}
	}
}

// P7.1: the greatest disk is a region.
func TestOpenGreatest(t *testing.T) {
	d := made(t, api.MaxSectors)
	s := opened(t, d, 0, api.MaxSectors)
	var records [][]byte
	for n := 0; s.Left() >= 5; n++ {
		records = append(records, row(n, 256-n%40))
		answers(t, "Add", s.Add(records[n]), api.OK)
	}
	holds(t, s, api.MaxSectors, records...)
	holds(t, opened(t, d, 0, api.MaxSectors), api.MaxSectors, records...)
	holds(t, opened(t, d, 4095, 1), 1)
}

// P7.1: frames that are there already, of records of all sizes, are its records.
func TestOpenFrames(t *testing.T) {
	d := made(t, 60)
	var records [][]byte
	at := 3
	for i, n := range counts {
		records = append(records, row(i, n))
		at = framed(t, d, at, i+1, records[i])
		holds(t, opened(t, d, 3, at-3), at-3, records...)
		holds(t, opened(t, d, 3, 57), 57, records...)
	}
}

// P7.1: a frame of another number than the next is none; neither is one that the region does not hold whole, one of another sum, or one behind noughts.
func TestOpenNoFrame(t *testing.T) {
	ab := []byte("ab")
	for _, num := range []int{0, 1, 3, 4, 1 << 32, math.MaxInt, -1} {
		d := made(t, 9)
		framed(t, d, framed(t, d, 0, 1, ab), num, ab)
		holds(t, opened(t, d, 0, 9), 9, ab)
		holds(t, opened(t, d, 0, 9), 9, ab)
	}
	for _, num := range []int{0, 2, 3, -1} {
		d := made(t, 9)
		framed(t, d, 0, num, ab)
		holds(t, opened(t, d, 0, 9), 9)
	}
	for many := 1; many < 4; many++ {
		d := made(t, 9)
		framed(t, d, framed(t, d, 1, 1, ab), 2, row(1, 150))
		holds(t, opened(t, d, 1, many), many, ab)
		for n := range 9 {
			b, _ := d.Read(n)
			if stays := !bytes.Equal(b, make([]byte, 64)); stays != (n == 1 || n > many && n < 5) {
				t.Errorf("of %d sectors: is there anything in sector %d: %v", many, n, stays)
			}
		}
	}
	for _, at := range []int{0, 4, 13, 15, 18, 20, 63} {
		d := made(t, 9)
		framed(t, d, framed(t, d, 0, 1, ab), 2, ab)
		answers(t, "Turn", d.Turn(1, at, 1), api.OK)
		holds(t, opened(t, d, 0, 9), 9, ab)
	}
	d := made(t, 9)
	framed(t, d, 2, 2, ab)
	framed(t, d, 0, 1, ab)
	holds(t, opened(t, d, 0, 9), 9, ab)
}

// P7.1: what is not all noughts may be in the end, or up to four sectors behind it; it is ErrForm five sectors behind it, and further, and then the disk is as it was.
func TestOpenLeft(t *testing.T) {
	for _, sizes := range [][]int{{}, {0}, {50}, {256, 3}} {
		for behind := range 12 {
			for _, at := range []int{0, 1, 31, 63} {
				var records [][]byte
				end := 2
				build := func() *disks.Disk {
					d := made(t, 25)
					records, end = nil, 2
					for i, n := range sizes {
						records = append(records, row(i, n))
						end = framed(t, d, end, i+1, records[i])
					}
					if end+behind < 25 {
						answers(t, "Turn", d.Turn(end+behind, at, 7), api.OK)
					}
					return d
				}
				d := build()
				if end+behind < 25 && behind >= 5 {
					d.Fuse(0)
					refuses(t, d, 2, 23, api.ErrForm)
					same(t, "of more than may be left", d, fused(build(), 0))
					// The region may end ahead of it.
					holds(t, opened(t, build(), 2, end+behind-2), end+behind-2, records...)
					continue
				}
				holds(t, opened(t, d, 2, 23), 23, records...)
				if b, _ := d.Read(end + behind); end+behind < 25 && !bytes.Equal(b, make([]byte, 64)) {
					t.Errorf("%d sectors behind the end there are no noughts", behind)
				}
			}
		}
	}
}

// P7.1: with all of the five sectors left, and with one more behind them, or one further on.
func TestOpenAllLeft(t *testing.T) {
	for more := range 8 {
		d := made(t, 20)
		end := framed(t, d, 0, 1, []byte("ab"))
		for n := range 5 {
			written(t, d, end+n, row(n, 64))
		}
		if more > 0 {
			written(t, d, end+4+more, []byte{1})
			refuses(t, d, 0, 20, api.ErrForm)
			continue
		}
		holds(t, opened(t, d, 0, 20), 20, []byte("ab"))
		for n := range 20 {
			if b, _ := d.Read(n); n > 0 && !bytes.Equal(b, make([]byte, 64)) {
				t.Errorf("there are no noughts in sector %d", n)
			}
		}
	}
}

// P7.1: ErrForm is told ahead of a fuse that blows.
func TestOpenFormFirst(t *testing.T) {
	d := made(t, 20)
	written(t, d, 0, []byte{1})
	written(t, d, 5, []byte{1})
	answers(t, "Fuse", d.Fuse(0), api.OK)
	refuses(t, d, 0, 20, api.ErrForm)
	refuses(t, d, 0, 0, api.ErrArg)
	if d.Blown() {
		t.Error("the disk was called")
	}
	refuses(t, d, 0, 5, api.ErrState)
}

// P7.2, P7.3: records of all sizes, one behind the other.
func TestAdd(t *testing.T) {
	d := made(t, 60)
	s := opened(t, d, 5, 50)
	var records [][]byte
	for i, n := range counts {
		records = append(records, row(i, n))
		answers(t, "Add", s.Add(records[i]), api.OK)
		holds(t, s, 50, records...)
		holds(t, opened(t, d, 5, 50), 50, records...)
		s = opened(t, d, 5, 50)
	}
}

// P7.2: the frames stand there by the document's words.
func TestAddedFrames(t *testing.T) {
	d, want := made(t, 60), made(t, 60)
	s := opened(t, d, 5, 50)
	at := 5
	for i, n := range counts {
		answers(t, "Add", s.Add(row(i, n)), api.OK)
		at = framed(t, want, at, i+1, row(i, n))
	}
	answers(t, "Sync", s.Sync(), api.OK)
	same(t, "frames", d, want)
}

// P7.2: ErrLimit of more than MaxRecord bytes, also where there is no room.
func TestAddLimit(t *testing.T) {
	for _, many := range []int{1, 4, 5, 9} {
		s := opened(t, made(t, 9), 0, many)
		for _, n := range []int{257, 258, 300, 65536, 65537} {
			answers(t, "Add", s.Add(row(1, n)), api.ErrLimit)
		}
		holds(t, s, many)
	}
}

// P7.2: ErrFull of a frame that has more sectors than are free; one that has just as many fills the region.
func TestAddFull(t *testing.T) {
	for _, n := range counts {
		size := sectorsOf(row(1, n))
		for many := 1; many < 13; many++ {
			d := made(t, 20)
			s := opened(t, d, 3, many)
			var records [][]byte
			for len(records) < many/size {
				records = append(records, row(len(records), n))
				answers(t, "Add", s.Add(records[len(records)-1]), api.OK)
			}
			want, _ := d.Fail(slices.Repeat([]bool{true}, d.Waits()))
			answers(t, "Sync", d.Sync(), api.OK)
			answers(t, "Fuse", d.Fuse(0), api.OK)
			answers(t, "Add", s.Add(row(9, n)), api.ErrFull)
			holds(t, s, many, records...)
			same(t, "of a full store", d, fused(want, 0))
			d.Fuse(-1)
			for s.Left() > 0 {
				records = append(records, nil)
				answers(t, "Add", s.Add(nil), api.OK)
			}
			holds(t, opened(t, d, 3, many), many, records...)
		}
	}
}

// P7.2: which error is answered where several apply: ErrLimit, then ErrFull, then ErrState; only for the last one the disk is called.
func TestAddErrors(t *testing.T) {
	d := made(t, 9)
	s := opened(t, d, 0, 4)
	answers(t, "Fuse", d.Fuse(0), api.OK)
	for range 2 {
		answers(t, "Add of 257", s.Add(row(1, 257)), api.ErrLimit)
		answers(t, "Add of 256", s.Add(row(1, 256)), api.ErrFull)
		answers(t, "Add of 239", s.Add(row(1, 239)), api.ErrFull)
	}
	if d.Blown() {
		t.Error("the disk was called")
	}
	for range 2 {
		answers(t, "Add of 238", s.Add(row(1, 238)), api.ErrState)
		answers(t, "Add of 256", s.Add(row(1, 256)), api.ErrFull)
		answers(t, "Add of 257", s.Add(row(1, 257)), api.ErrLimit)
		answers(t, "Sync", s.Sync(), api.ErrState)
		holds(t, s, 4)
	}
}

// P7.3: what was read is kept: whatever becomes of the disk, the records stay.
func TestRecordsStay(t *testing.T) {
	d := made(t, 9)
	framed(t, d, 0, 1, []byte("ab"))
	s := opened(t, d, 0, 9)
	answers(t, "Add", s.Add([]byte("cd")), api.OK)
	answers(t, "Sync", s.Sync(), api.OK)
	for n := range 9 {
		written(t, d, n, row(n, 64))
	}
	holds(t, s, 9, []byte("ab"), []byte("cd"))
}
