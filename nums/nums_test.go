package nums_test

import (
	"bytes"
	"encoding/binary"
	"math"
	"math/rand"
	"slices"
	"testing"

	"almoner/api"
	"almoner/nums"
)

// numbers are those at which a digit changes, and some between them.
func numbers() []uint64 {
	l := []uint64{0, 1, 7, 513, math.MaxUint64, 0x0102030405060708}
	for i := 8; i < 64; i += 8 {
		l = append(l, 1<<i-1, 1<<i, 1<<i+1)
	}
	r := rand.New(rand.NewSource(1))
	for range 50 {
		l = append(l, r.Uint64()>>r.Intn(64))
	}
	return l
}

// wanted is what Put must answer, by the library.
func wanted(b []byte, n uint64, count int) []byte {
	all := binary.BigEndian.AppendUint64(nil, n)
	return slices.Concat(b, all[8-min(max(count, 0), 8):])
}

// row is so many bytes, unlike their neighbours.
func row(n int) []byte {
	b := make([]byte, n)
	for i := range b {
		b[i] = byte(i*7 + 3)
	}
	return b
}

func someSums(n int) []api.Sum {
	l := make([]api.Sum, n)
	for i := range l {
		for j := range l[i] {
			l[i][j] = byte(i*31 + i>>8 + j + 1)
		}
	}
	return l
}

func flat(l []api.Sum) []byte {
	var b []byte
	for _, s := range l {
		b = append(b, s[:]...)
	}
	return b
}

// P1.1: Put at ordinary numbers and at each number of bytes, too few and too many ones also.
func TestPut(t *testing.T) {
	for _, c := range []struct {
		b     []byte
		n     uint64
		count int
		want  []byte
	}{
		{[]byte{7}, 513, 3, []byte{7, 0, 2, 1}},
		{nil, 513, 1, []byte{1}},
		{[]byte{4}, 1, -2, []byte{4}},
		{[]byte{4}, 1, 0, []byte{4}},
		{nil, 0, 0, nil},
		{[]byte{}, 1, 8, []byte{0, 0, 0, 0, 0, 0, 0, 1}},
		{[]byte{5, 6}, 0x0102030405060708, 9, []byte{5, 6, 1, 2, 3, 4, 5, 6, 7, 8}},
		{nil, math.MaxUint64, math.MaxInt, []byte{255, 255, 255, 255, 255, 255, 255, 255}},
		{[]byte{1}, math.MaxUint64, math.MinInt, []byte{1}},
	} {
		if got := nums.Put(c.b, c.n, c.count); !bytes.Equal(got, c.want) {
			t.Errorf("Put(%v, %d, %d) = %v, not %v", c.b, c.n, c.count, got, c.want)
		}
	}
	for _, n := range numbers() {
		for count := -3; count <= 11; count++ {
			for _, b := range [][]byte{nil, {9}, row(70)} {
				if got, want := nums.Put(b, n, count), wanted(b, n, count); !bytes.Equal(got, want) {
					t.Errorf("Put(%v, %d, %d) = %v, not %v", b, n, count, got, want)
				}
			}
		}
	}
}

// P1.1: Get's numbers, its errors, and which of them is first.
func TestGet(t *testing.T) {
	for _, c := range []struct {
		b     []byte
		count int
		n     uint64
		e     api.Errno
	}{
		{[]byte{0, 2, 1, 9}, 3, 513, api.OK},
		{[]byte{0, 2, 1}, 3, 513, api.OK},
		{[]byte{0, 2}, 3, 0, api.ErrShort},
		{nil, 0, 0, api.OK},
		{[]byte{7}, 0, 0, api.OK},
		{[]byte{0}, 10, 0, api.ErrArg},
		{nil, 1, 0, api.ErrShort},
		{nil, 8, 0, api.ErrShort},
		{nil, 9, 0, api.ErrArg},
		{row(20), 9, 0, api.ErrArg},
		{row(20), -1, 0, api.ErrArg},
		{nil, -1, 0, api.ErrArg},
		{row(20), math.MinInt, 0, api.ErrArg},
		{row(20), math.MaxInt, 0, api.ErrArg},
		{[]byte{1, 2, 3, 4, 5, 6, 7}, 8, 0, api.ErrShort},
		{[]byte{1, 2, 3, 4, 5, 6, 7, 8}, 8, 0x0102030405060708, api.OK},
		{[]byte{255, 255, 255, 255, 255, 255, 255, 255, 1}, 8, math.MaxUint64, api.OK},
		{[]byte{128}, 1, 128, api.OK},
	} {
		if n, e := nums.Get(c.b, c.count); n != c.n || e != c.e {
			t.Errorf("Get(%v, %d) = %d, %d, not %d, %d", c.b, c.count, n, e, c.n, c.e)
		}
	}
}

// P1.1: the spare room of b is not a part of it.
func TestGetLeavesSpareRoom(t *testing.T) {
	b := row(100)
	if n, e := nums.Get(b[:2], 3); n != 0 || e != api.ErrShort {
		t.Error(n, e)
	}
	if l, took, e := nums.GetBytes([]byte{0, 0, 0, 2, 7, 8}[:5]); len(l) != 0 || took != 0 || e != api.ErrShort {
		t.Error(l, took, e)
	}
	if l, took, e := nums.GetSums(append([]byte{0, 1}, row(32)...)[:33]); len(l) != 0 || took != 0 || e != api.ErrShort {
		t.Error(l, took, e)
	}
}

// P1.2: PutBytes at ordinary lists and at those whose length fills more than one byte.
func TestPutBytes(t *testing.T) {
	if got := nums.PutBytes([]byte{8}, []byte{6, 5}); !bytes.Equal(got, []byte{8, 0, 0, 0, 2, 6, 5}) {
		t.Error(got)
	}
	for _, n := range []int{0, 1, 255, 256, 257, 65535, 65536, 1<<16 + 258, 1<<24 + 2} {
		for _, b := range [][]byte{nil, {9}, row(70)} {
			l := row(n)
			want := append(binary.BigEndian.AppendUint32(slices.Clone(b), uint32(n)), l...)
			if got := nums.PutBytes(b, l); !bytes.Equal(got, want) {
				t.Errorf("PutBytes(%d bytes, %d bytes): another answer, %d bytes", len(b), n, len(got))
			}
		}
	}
	if got := nums.PutBytes(nil, nil); !bytes.Equal(got, []byte{0, 0, 0, 0}) {
		t.Error(got)
	}
}

// P1.2: GetBytes, and bytes that end too early.
func TestGetBytes(t *testing.T) {
	for _, c := range []struct {
		b, l []byte
		took int
		e    api.Errno
	}{
		{[]byte{0, 0, 0, 1, 6, 5}, []byte{6}, 5, api.OK},
		{[]byte{0, 0, 0, 2, 6, 5}, []byte{6, 5}, 6, api.OK},
		{[]byte{0, 0, 0, 0}, nil, 4, api.OK},
		{[]byte{0, 0, 0, 0, 7}, nil, 4, api.OK},
		{[]byte{0, 0, 1}, nil, 0, api.ErrShort},
		{[]byte{0, 0, 0}, nil, 0, api.ErrShort},
		{nil, nil, 0, api.ErrShort},
		{[]byte{0, 0, 0, 1}, nil, 0, api.ErrShort},
		{[]byte{0, 0, 0, 3, 1, 2}, nil, 0, api.ErrShort},
		{[]byte{0, 0, 0, 7, 1, 2, 3}, nil, 0, api.ErrShort},
		{[]byte{0, 0, 1, 0, 1, 2, 3}, nil, 0, api.ErrShort},
		{[]byte{1, 0, 0, 1, 2}, nil, 0, api.ErrShort},
		{[]byte{127, 255, 255, 255, 1}, nil, 0, api.ErrShort},
		{[]byte{128, 0, 0, 0, 1}, nil, 0, api.ErrShort},
		{[]byte{255, 255, 255, 255, 1}, nil, 0, api.ErrShort},
	} {
		if l, took, e := nums.GetBytes(c.b); !bytes.Equal(l, c.l) || took != c.took || e != c.e {
			t.Errorf("GetBytes(%v) = %v, %d, %d, not %v, %d, %d", c.b, l, took, e, c.l, c.took, c.e)
		}
	}
}

// P1.3: PutSums, and more sums than two bytes tell.
func TestPutSums(t *testing.T) {
	for _, n := range []int{0, 1, 2, 3, 255, 256, 257, 65534, 65535, 65536, 65537, 70000} {
		for _, b := range [][]byte{nil, {9}, row(70)} {
			l := someSums(n)
			told := min(n, 65535)
			want := append(binary.BigEndian.AppendUint16(slices.Clone(b), uint16(told)), flat(l[:told])...)
			if got := nums.PutSums(b, l); !bytes.Equal(got, want) {
				t.Errorf("PutSums(%d bytes, %d sums): another answer, %d bytes", len(b), n, len(got))
			}
		}
	}
	if got := nums.PutSums(nil, nil); !bytes.Equal(got, []byte{0, 0}) {
		t.Error(got)
	}
}

// P1.3: GetSums, and bytes that end too early.
func TestGetSums(t *testing.T) {
	for _, c := range []struct {
		b    []byte
		want int
		e    api.Errno
	}{
		{[]byte{0, 0, 3}, 0, api.OK},
		{[]byte{0, 0}, 0, api.OK},
		{append([]byte{0, 1}, flat(someSums(1))...), 1, api.OK},
		{append([]byte{0, 1}, flat(someSums(2))...), 1, api.OK},
		{append([]byte{0, 2}, flat(someSums(2))...), 2, api.OK},
		{append([]byte{1, 2}, flat(someSums(258))...), 258, api.OK},
		{append([]byte{255, 255}, flat(someSums(65535))...), 65535, api.OK},
		{append([]byte{255, 255}, flat(someSums(65536))...), 65535, api.OK},
		{nil, 0, api.ErrShort},
		{[]byte{0}, 0, api.ErrShort},
		{[]byte{0, 1}, 0, api.ErrShort},
		{append([]byte{0, 1}, row(31)...), 0, api.ErrShort},
		{append([]byte{0, 2}, row(63)...), 0, api.ErrShort},
		{append([]byte{1, 0}, row(32)...), 0, api.ErrShort},
		{append([]byte{128, 0}, row(64)...), 0, api.ErrShort},
		{append([]byte{255, 255}, row(32*65535-1)...), 0, api.ErrShort},
	} {
		took := 0
		if c.e == api.OK {
			took = 2 + 32*c.want
		}
		if l, n, e := nums.GetSums(c.b); !slices.Equal(l, someSums(c.want)) || n != took || e != c.e {
			t.Errorf("GetSums(%d bytes) = %d sums, %d, %d, not %d, %d, %d", len(c.b), len(l), n, e, c.want, took, c.e)
		}
	}
}

// P1.4: one more changes the last byte that is not 255, and makes those behind it 0.
func TestOneMore(t *testing.T) {
	for _, n := range numbers() {
		for count := range 9 {
			want := nums.Put(nil, n, count)
			for i := count - 1; i >= 0; i-- {
				want[i]++
				if want[i] != 0 {
					break
				}
			}
			if got := nums.Put(nil, n+1, count); !bytes.Equal(got, want) {
				t.Errorf("Put(none, %d, %d) = %v, not %v", n+1, count, got, want)
			}
		}
	}
}

// P1.4: the bytes of a number are those of its higher part, and those of its lower one.
func TestParts(t *testing.T) {
	for _, n := range numbers() {
		for high := range 9 {
			for low := range 9 - high {
				parts := nums.Put(nums.Put([]byte{5}, n>>(8*low), high), n, low)
				if got := nums.Put([]byte{5}, n, high+low); !bytes.Equal(got, parts) {
					t.Errorf("Put(5, %d, %d) = %v, not %v", n, high+low, got, parts)
				}
			}
		}
	}
}

// P1.4: what was put is got, whatever stands behind it; and of one byte fewer it is not.
func TestJustTheFirst(t *testing.T) {
	r := rand.New(rand.NewSource(2))
	behind := func() []byte { return row(r.Intn(5) * 20) }
	for _, n := range numbers() {
		for count := range 9 {
			b := nums.Put(nil, n, count)
			want := n
			if count < 8 {
				want = n & (1<<(8*count) - 1)
			}
			if got, e := nums.Get(append(b, behind()...), count); got != want || e != api.OK {
				t.Errorf("Get(Put(none, %d, %d)) = %d, %d", n, count, got, e)
			}
			if count == 0 {
				continue
			}
			if got, e := nums.Get(b[:count-1], count); got != 0 || e != api.ErrShort {
				t.Errorf("Get(Put(none, %d, %d), less one) = %d, %d", n, count, got, e)
			}
		}
	}
	for n := range 300 {
		b, l := nums.PutBytes(nil, row(n)), row(n)
		if got, took, e := nums.GetBytes(append(b, behind()...)); !bytes.Equal(got, l) || took != 4+n || e != api.OK {
			t.Errorf("GetBytes(PutBytes(none, %d bytes)) = %v, %d, %d", n, got, took, e)
		}
		if got, took, e := nums.GetBytes(b[:len(b)-1]); len(got) != 0 || took != 0 || e != api.ErrShort {
			t.Errorf("GetBytes(PutBytes(none, %d bytes), less one) = %v, %d, %d", n, got, took, e)
		}
		s, m := nums.PutSums(nil, someSums(n)), someSums(n)
		if got, took, e := nums.GetSums(append(s, behind()...)); !slices.Equal(got, m) || took != 2+32*n || e != api.OK {
			t.Errorf("GetSums(PutSums(none, %d sums)) = %v, %d, %d", n, got, took, e)
		}
		if got, took, e := nums.GetSums(s[:len(s)-1]); len(got) != 0 || took != 0 || e != api.ErrShort {
			t.Errorf("GetSums(PutSums(none, %d sums), less one) = %v, %d, %d", n, got, took, e)
		}
	}
}
