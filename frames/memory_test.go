package frames_test

import (
	"bytes"
	"slices"
	"sync"
	"testing"

	"almoner/api"
	"almoner/frames"
)

// spare is b with spare room behind it, so that a call that writes into it is seen.
func spare(b []byte) []byte { return slices.Concat(b, row(400))[:len(b)] }

// overwrite changes all of b, its spare room too.
func overwrite(b []byte) {
	for i := range b[:cap(b)] {
		b[:cap(b)][i] ^= 0x5a
	}
}

// R4: what is handed in is not changed, its spare room neither, whether it is taken or not.
func TestHandedInStays(t *testing.T) {
	short := wanted(4, row(100))[:127]
	wrong := wanted(4, row(100))
	wrong[sumAt] ^= 1
	for _, n := range counts {
		for _, b := range [][]byte{spare(row(n)), spare(row(300)), spare(wanted(4, row(n))), spare(short), spare(wrong), spare(make([]byte, 64))} {
			before := slices.Clone(b[:cap(b)])
			frames.Put(4, b)
			frames.Get(b)
			if !bytes.Equal(b[:cap(b)], before) {
				t.Errorf("of %d bytes: what was handed in is another one", len(b))
			}
		}
	}
}

// R4: the spare room of what is handed in is not a part of it.
func TestSpareRoomIsNoPart(t *testing.T) {
	for _, n := range counts {
		if got := put(t, 4, spare(row(n))); !bytes.Equal(got, wanted(4, row(n))) {
			t.Errorf("Put(4, %d bytes with spare room) = %q", n, got)
		}
		whole := wanted(4, row(n))
		gets(t, spare(whole), 4, row(n))
		fails(t, "a byte in the spare room", whole[:len(whole)-1], api.ErrShort)
		fails(t, "all in the spare room", whole[:0], api.ErrShort)
	}
}

// R4: whoever writes into an answer, or behind it, changes neither what was handed in nor another answer.
func TestAnswersAreNew(t *testing.T) {
	for _, n := range counts {
		record, whole := spare(row(n)), spare(wanted(4, row(n)))
		first, second := put(t, 4, record), put(t, 4, record)
		_, firstGot, _, _ := frames.Get(whole)
		_, secondGot, _, _ := frames.Get(whole)
		overwrite(first)
		overwrite(firstGot)
		if !bytes.Equal(record, row(n)) || !bytes.Equal(whole, wanted(4, row(n))) || !bytes.Equal(record[:n+9][n:], row(9)) || !bytes.Equal(whole[:len(whole)+9][len(whole):], row(9)) {
			t.Errorf("of %d bytes: an answer shares memory with what was handed in", n)
		}
		if !bytes.Equal(second, wanted(4, row(n))) || !bytes.Equal(secondGot, row(n)) {
			t.Errorf("of %d bytes: two answers share memory", n)
		}
		gets(t, put(t, 4, record), 4, row(n))
	}
}

// R4: an answer stays, whatever becomes of what was handed in.
func TestAnswersStay(t *testing.T) {
	for _, n := range counts {
		record, whole := spare(row(n)), spare(wanted(4, row(n)))
		b := put(t, 4, record)
		_, got, _, _ := frames.Get(whole)
		overwrite(record)
		overwrite(whole)
		if !bytes.Equal(b, wanted(4, row(n))) || !bytes.Equal(got, row(n)) {
			t.Errorf("of %d bytes: an answer changed with what was handed in", n)
		}
	}
}

// R5: answers that are worked out at the same time, of the same memory, are those that are worked out one by one.
func TestAtTheSameTime(t *testing.T) {
	record, whole := row(256), wanted(8, row(256))
	var right [8]bool
	var group sync.WaitGroup
	for i := range right {
		group.Go(func() {
			right[i] = true
			for n := range record {
				b, _ := frames.Put(uint64(i), record[:n])
				num, l, _, e := frames.Get(whole)
				_, _, _, other := frames.Get(whole[:n])
				right[i] = right[i] && bytes.Equal(b, wanted(uint64(i), record[:n])) && num == 8 && bytes.Equal(l, record) && e == api.OK && other == api.ErrShort
			}
		})
	}
	group.Wait()
	for i := range right {
		if !right[i] {
			t.Errorf("the answers %d are other ones", i)
		}
	}
}
