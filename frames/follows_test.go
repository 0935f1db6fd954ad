package frames_test

import (
	"bytes"
	"math/rand"
	"slices"
	"testing"

	"almoner/api"
	"almoner/frames"
)

// P6.3: what is put is got, whatever stands behind it.
func TestPutIsGot(t *testing.T) {
	for _, num := range numbers {
		for n := range api.MaxRecord + 1 {
			for _, record := range kinds(n) {
				b := put(t, num, record)
				gets(t, b, num, record)
				gets(t, append(b, record...), num, record)
			}
		}
	}
}

// P6.3: any record, by any number, with anything behind it.
func TestAnyPutIsGot(t *testing.T) {
	r := rand.New(rand.NewSource(7))
	for range 20000 {
		record, behind := make([]byte, r.Intn(257)), make([]byte, r.Intn(200))
		r.Read(record)
		r.Read(behind)
		num := r.Uint64() >> r.Intn(64)
		gets(t, append(put(t, num, record), behind...), num, record)
	}
}

// P6.3: frames one behind the other are got one behind the other, by how many sectors each has.
func TestPutOneBehindTheOther(t *testing.T) {
	var all []byte
	for i, n := range counts {
		all = append(all, put(t, uint64(i), row(n))...)
	}
	for i, n := range counts {
		gets(t, all, uint64(i), row(n))
		_, _, took, _ := frames.Get(all)
		all = all[64*took:]
	}
	fails(t, "behind the last one", all, api.ErrShort)
}

// P6.3: a frame is whole sectors, five at most, and as few as hold it.
func TestFrameSectors(t *testing.T) {
	for n := range api.MaxRecord + 1 {
		size := len(put(t, 3, row(n)))
		if size%64 != 0 || size > 5*64 || size < 18+n || size-64 >= 18+n {
			t.Errorf("the frame of %d bytes has %d", n, size)
		}
	}
}

// P6.3: of bytes of which a record is got its frame is their beginning; so of a frame with any one bit another one nothing is got, but of those behind it.
func TestGotIsABeginning(t *testing.T) {
	for _, n := range counts {
		whole := append(put(t, 9, row(n)), row(64)...)
		size := len(whole) - 64
		for bit := range 8 * len(whole) {
			b := slices.Clone(whole)
			b[bit/8] ^= 1 << (bit % 8)
			num, l, took, e := frames.Get(b)
			if got := e == api.OK; got != (bit/8 >= size) {
				t.Errorf("of %d bytes, with the bit %d another one: %d", n, bit, e)
			} else if got && !bytes.Equal(put(t, num, l), b[:64*took]) {
				t.Errorf("of %d bytes: another frame is the beginning", n)
			}
		}
	}
}

// P6.3: likewise, of bytes whose short sum is the same though two of them are others: what is got is what stands there.
func TestGotThoughTheSumIsTheSame(t *testing.T) {
	record := row(40)
	b := wanted(9, record)
	// One more, two less, one more: both halves of the sum stay.
	for i, by := range []int{1, -2, 1} {
		b[recordAt+10+i] = byte(int(b[recordAt+10+i]) + by)
	}
	other := slices.Clone(b[recordAt : recordAt+40])
	if bytes.Equal(other, record) {
		t.Fatal("the record is the same")
	}
	gets(t, b, 9, other)
	if !bytes.Equal(put(t, 9, other), b) {
		t.Error("another frame is the beginning")
	}
}
