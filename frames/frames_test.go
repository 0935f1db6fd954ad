package frames_test

import (
	"bytes"
	"encoding/binary"
	"hash/adler32"
	"math"
	"math/rand"
	"slices"
	"testing"

	"almoner/api"
	"almoner/frames"
)

// The places of a frame's parts.
const (
	numAt    = 4
	countAt  = 12
	sumAt    = 14
	recordAt = 18
)

// counts are of records: none, some, those round which a frame needs a sector more, the most.
var counts = []int{0, 1, 2, 45, 46, 47, 109, 110, 111, 173, 174, 175, 237, 238, 239, 254, 255, 256}

// numbers are the lowest, the highest, and those at which a byte more is not a nought.
var numbers = []uint64{0, 1, 7, 255, 256, 65535, 65536, 1<<32 - 1, 1 << 32, 1 << 56, 1 << 63, 0x0102030405060708, math.MaxUint64 - 1, math.MaxUint64}

// row is so many bytes, none of which is a nought, unlike their neighbours.
func row(n int) []byte {
	b := make([]byte, n)
	for i := range b {
		b[i] = byte(i*7%251 + 3)
	}
	return b
}

// kinds are records of so many bytes: unlike ones, noughts, the highest ones, and frames' first bytes.
func kinds(n int) [][]byte {
	return [][]byte{row(n), make([]byte, n), bytes.Repeat([]byte{255}, n), bytes.Repeat([]byte("REC1"), n/4+1)[:n]}
}

// wanted is a record's frame by the document's words, with the library's sum and numbers.
func wanted(num uint64, b []byte) []byte {
	ten := binary.BigEndian.AppendUint64(nil, num)
	ten = binary.BigEndian.AppendUint16(ten, uint16(len(b)))
	sum := adler32.Checksum(slices.Concat(ten, b))
	out := slices.Concat([]byte("REC1"), ten, binary.BigEndian.AppendUint32(nil, sum), b)
	for len(out)%64 != 0 {
		out = append(out, 0)
	}
	return out
}

// put is what Put answers, which must be no error.
func put(t *testing.T, num uint64, b []byte) []byte {
	t.Helper()
	out, e := frames.Put(num, b)
	if e != api.OK {
		t.Fatalf("Put(%d, %d bytes) = %d", num, len(b), e)
	}
	return out
}

// gets fails the test if of b there is not got this record, by this number.
func gets(t *testing.T, b []byte, num uint64, record []byte) {
	t.Helper()
	n, l, took, e := frames.Get(b)
	if want := (18 + len(record) + 63) / 64; n != num || !bytes.Equal(l, record) || took != want || e != api.OK {
		t.Errorf("Get(%d bytes) = %d, %v, %d, %d, not %d, %v, %d, OK", len(b), n, l, took, e, num, record, want)
	}
}

// fails fails the test if of b there is got anything, or another error.
func fails(t *testing.T, what string, b []byte, want api.Errno) {
	t.Helper()
	if n, l, took, e := frames.Get(b); n != 0 || len(l) != 0 || took != 0 || e != want {
		t.Errorf("%s: Get(%d bytes) = %d, %v, %d, %d, not the error %d", what, len(b), n, l, took, e, want)
	}
}

// P6.1: what the document tells.
func TestPutTold(t *testing.T) {
	for _, c := range []struct{ count, size int }{{0, 64}, {46, 64}, {47, 128}, {256, 320}} {
		if b := put(t, 1, row(c.count)); len(b) != c.size || string(b[:4]) != "REC1" {
			t.Errorf("Put(1, %d bytes): %d bytes, %q first", c.count, len(b), b[:4])
		}
	}
	want := append([]byte("REC1\x00\x00\x00\x00\x00\x00\x00\x07\x00\x02\x01\x59\x00\xcdab"), make([]byte, 44)...)
	if b := put(t, 7, []byte("ab")); !bytes.Equal(b, want) {
		t.Errorf("Put(7, ab) = %q, not %q", b, want)
	}
}

// P6.1: each count that a record may have, by an ordinary number, of bytes of several kinds.
func TestPutEveryCount(t *testing.T) {
	for n := range api.MaxRecord + 1 {
		for _, b := range kinds(n) {
			if got := put(t, 77, b); !bytes.Equal(got, wanted(77, b)) {
				t.Errorf("Put(77, %d bytes) = %q, not %q", n, got, wanted(77, b))
			}
		}
	}
}

// P6.1: each number, the lowest and the highest among them.
func TestPutNumbers(t *testing.T) {
	for _, num := range numbers {
		for _, n := range counts {
			if got, want := put(t, num, row(n)), wanted(num, row(n)); !bytes.Equal(got, want) {
				t.Errorf("Put(%d, %d bytes) = %q, not %q", num, n, got, want)
			}
		}
	}
}

// P6.1: a record of no bytes, whether the list is nil, empty, or has spare room.
func TestPutNone(t *testing.T) {
	for _, num := range numbers {
		for _, b := range [][]byte{nil, {}, row(9)[:0]} {
			got := put(t, num, b)
			if !bytes.Equal(got, wanted(num, nil)) {
				t.Errorf("Put(%d, none) = %q", num, got)
			}
			gets(t, got, num, nil)
		}
	}
}

// P6.1: MaxRecord bytes are let be, one more is not, nor so many that two bytes can't tell them.
func TestPutLimit(t *testing.T) {
	for _, n := range []int{257, 258, 300, 65535, 65536, 65537, 65536 + 256, 1 << 20} {
		if b, e := frames.Put(1, row(n)); len(b) != 0 || e != api.ErrLimit {
			t.Errorf("Put(1, %d bytes) = %d bytes, %d", n, len(b), e)
		}
	}
	put(t, 1, row(256))
}

// P6.2: what the document tells.
func TestGetTold(t *testing.T) {
	gets(t, put(t, 7, []byte("ab")), 7, []byte("ab"))
	fails(t, "63 noughts", make([]byte, 63), api.ErrShort)
	fails(t, "64 noughts", make([]byte, 64), api.ErrForm)
}

// P6.2: frames that Put did not make.
func TestGetWanted(t *testing.T) {
	for n := range api.MaxRecord + 1 {
		for _, b := range kinds(n) {
			gets(t, wanted(uint64(n)*3, b), uint64(n)*3, b)
		}
	}
	for _, num := range numbers {
		for _, n := range counts {
			gets(t, wanted(num, row(n)), num, row(n))
		}
	}
}

// P6.2: fewer bytes than a sector has, none too, whatever they are.
func TestGetShortOfASector(t *testing.T) {
	fails(t, "nil", nil, api.ErrShort)
	for _, whole := range [][]byte{wanted(1, nil), wanted(7, row(46)), wanted(9, row(256)), row(64), make([]byte, 64), bytes.Repeat([]byte{255}, 64)} {
		for n := range 64 {
			fails(t, "the first ones", whole[:n], api.ErrShort)
		}
	}
}

// P6.2: other first bytes, each bit of each of the four, of a frame that is whole otherwise.
func TestGetOtherMark(t *testing.T) {
	for _, n := range counts {
		for at := range numAt {
			for bit := range 8 {
				b := wanted(5, row(n))
				b[at] ^= 1 << bit
				fails(t, "another mark", b, api.ErrForm)
			}
		}
		for _, mark := range []string{"rec1", "REC0", "REC2", "1CER", "\x00REC", "EREC", "    "} {
			b := wanted(5, row(n))
			copy(b, mark)
			fails(t, mark, b, api.ErrForm)
		}
	}
}

// telling is a frame whose count is another one, of so many bytes in all, with a sum that is right for it as far as there are bytes.
func telling(count, size int) []byte {
	b := make([]byte, max(size, recordAt))
	copy(b, wanted(5, nil)[:countAt])
	binary.BigEndian.PutUint16(b[countAt:], uint16(count))
	record := b[recordAt:]
	record = record[:min(count, len(record))]
	copy(record, row(len(record)))
	sum := adler32.Checksum(slices.Concat(b[numAt:sumAt], record))
	binary.BigEndian.PutUint32(b[sumAt:], sum)
	return b[:size]
}

// P6.2: a count above MaxRecord, however many bytes there are: just enough for such a frame, too.
func TestGetCountAboveLimit(t *testing.T) {
	for _, count := range []int{257, 258, 300, 511, 512, 1000, 32767, 32768, 65279, 65280, 65535} {
		for _, size := range []int{64, 128, 320, 384, (recordAt + count + 63) / 64 * 64, 66000} {
			fails(t, "a count above the limit", telling(count, size), api.ErrForm)
		}
	}
	for _, count := range counts {
		gets(t, telling(count, 320), 5, row(count))
	}
}

// P6.2: fewer bytes than the frame would have: those that are missing may be noughts, of the record, or all but the first sector.
func TestGetShortOfAFrame(t *testing.T) {
	for n := range api.MaxRecord + 1 {
		for _, record := range kinds(n) {
			whole := wanted(5, record)
			for size := 64; size < len(whole); size++ {
				fails(t, "a frame's first bytes", whole[:size], api.ErrShort)
			}
			gets(t, whole, 5, record)
		}
	}
}

// P6.2: a byte that should be a nought and is not, at each place of these.
func TestGetNoNought(t *testing.T) {
	for n := range api.MaxRecord + 1 {
		whole := wanted(5, row(n))
		for at := recordAt + n; at < len(whole); at++ {
			for _, by := range []byte{1, 16, 128, 255} {
				b := slices.Clone(whole)
				b[at] = by
				fails(t, "no nought", b, api.ErrForm)
			}
		}
	}
}

// P6.2: a sum that is another one: each bit of it.
func TestGetOtherSum(t *testing.T) {
	for _, n := range counts {
		for bit := range 32 {
			b := wanted(5, row(n))
			b[sumAt+bit/8] ^= 1 << (bit % 8)
			fails(t, "another sum", b, api.ErrSum)
		}
	}
}

// P6.2: the sum is of the number, the count and the record: with any byte of these another one it is another one.
func TestGetOtherThanSummed(t *testing.T) {
	for _, n := range counts {
		whole := wanted(0x0807060504030201, row(n))
		for at := numAt; at < recordAt+n; at++ {
			if at >= countAt && at < recordAt {
				continue
			}
			for _, by := range []byte{1, 16, 128, 255} {
				b := slices.Clone(whole)
				b[at] ^= by
				fails(t, "another byte", b, api.ErrSum)
			}
		}
	}
}

// P6.2: a count that is another one, of as many sectors: by it a byte of the record is where a nought should be, or a nought belongs to the record.
func TestGetOtherCount(t *testing.T) {
	b := wanted(5, row(20))
	b[countAt+1] = 19
	fails(t, "a byte less", b, api.ErrForm)
	b[countAt+1] = 21
	fails(t, "a byte more", b, api.ErrSum)
	b[countAt+1] = 47
	fails(t, "a sector more", b, api.ErrShort)
	fails(t, "a sector more, of noughts", append(b, make([]byte, 64)...), api.ErrSum)
	b[countAt] = 2
	fails(t, "above the limit", b, api.ErrForm)
}

// P6.2: where several errors apply, the one that is named first is answered.
func TestGetFirstError(t *testing.T) {
	// Each fault, in the order in which the document asks for it.
	faults := []struct {
		e    api.Errno
		make func(b []byte) []byte
	}{
		{api.ErrShort, func(b []byte) []byte { return b[:63] }},
		{api.ErrForm, func(b []byte) []byte { b[0] = 'r'; return b }},
		{api.ErrForm, func(b []byte) []byte { b[countAt] = 9; return b }},
		{api.ErrShort, func(b []byte) []byte { return b[:len(b)-1] }},
		{api.ErrForm, func(b []byte) []byte { b[recordAt+50] = 1; return b }},
		{api.ErrSum, func(b []byte) []byte { b[sumAt] ^= 1; return b }},
	}
	for which := 1; which < 1<<len(faults); which++ {
		b, want := wanted(5, row(50)), api.OK
		// From the last one on, so that the one that is named first is what stands in want.
		for i := len(faults) - 1; i >= 0; i-- {
			if which>>i&1 == 1 {
				b, want = faults[i].make(b), faults[i].e
			}
		}
		fails(t, "several faults", b, want)
	}
}

// P6.2: whatever stands behind a frame is no part of it: a nought, another byte, a sector of these, another frame, one that is none.
func TestGetOtherBytesBehind(t *testing.T) {
	for _, n := range counts {
		whole := wanted(5, row(n))
		for _, behind := range [][]byte{{0}, {1}, row(63), row(64), make([]byte, 640), wanted(6, row(100)), wanted(5, row(n)), wanted(6, nil)[:30]} {
			gets(t, slices.Concat(whole, behind), 5, row(n))
		}
	}
}

// expected is what Get must answer of any bytes, by the document's words.
func expected(b []byte) (num uint64, l []byte, took int, e api.Errno) {
	if len(b) < 64 {
		return 0, nil, 0, api.ErrShort
	}
	count := int(b[countAt])*256 + int(b[countAt+1])
	if string(b[:numAt]) != "REC1" || count > 256 {
		return 0, nil, 0, api.ErrForm
	}
	for took = 1; took*64 < recordAt+count; took++ {
	}
	if len(b) < took*64 {
		return 0, nil, 0, api.ErrShort
	}
	if len(bytes.Trim(b[recordAt+count:took*64], "\x00")) != 0 {
		return 0, nil, 0, api.ErrForm
	}
	num = binary.BigEndian.Uint64(b[numAt:])
	if !bytes.Equal(wanted(num, b[recordAt:recordAt+count]), b[:took*64]) {
		return 0, nil, 0, api.ErrSum
	}
	return num, b[recordAt : recordAt+count], took, api.OK
}

// P6.2, R1, R2: any bytes, and any that differ from a frame in a few places, of any length: what the document says, and beside an error nothing.
func TestGetAny(t *testing.T) {
	r := rand.New(rand.NewSource(6))
	seen := map[api.Errno]int{}
	for range 60000 {
		record := make([]byte, r.Intn(257))
		r.Read(record)
		b := append(wanted(r.Uint64(), record), row(r.Intn(3)*64)...)
		if r.Intn(8) == 0 {
			r.Read(b)
		}
		for range r.Intn(3) {
			b[r.Intn(min(len(b), 30+r.Intn(400)))] = byte(r.Intn(256))
		}
		if r.Intn(3) == 0 {
			b = b[:r.Intn(len(b)+1)]
		}
		wantNum, wantL, wantTook, wantE := expected(b)
		num, l, took, e := frames.Get(b)
		if num != wantNum || !bytes.Equal(l, wantL) || took != wantTook || e != wantE {
			t.Fatalf("Get(%q) = %d, %q, %d, %d, not %d, %q, %d, %d", b, num, l, took, e, wantNum, wantL, wantTook, wantE)
		}
		seen[e]++
	}
	for _, e := range []api.Errno{api.OK, api.ErrShort, api.ErrForm, api.ErrSum} {
		if seen[e] < 1000 {
			t.Errorf("the error %d was asked for %d times", e, seen[e])
		}
	}
}
