package shas_test

import (
	"crypto/sha256"
	"encoding"
	"encoding/binary"
	"slices"
	"testing"

	"almoner/api"
	"almoner/shas"
)

// ended is b and its own end.
func ended(b []byte) []byte {
	out := append(slices.Clone(b), 128)
	for len(out)%64 != 56 {
		out = append(out, 0)
	}
	return binary.BigEndian.AppendUint64(out, uint64(len(b))*8)
}

// goneOn is the sum of more, behind so many bytes of which nothing is known but their sum: the library takes the blocks from there on. (The form in which it keeps a state: a word, the eight numbers, a block that is begun, how many bytes there were.)
func goneOn(t *testing.T, sum api.Sum, before int, more []byte) api.Sum {
	t.Helper()
	state := slices.Concat([]byte("sha\x03"), sum[:], make([]byte, 64))
	state = binary.BigEndian.AppendUint64(state, uint64(before))
	library := sha256.New()
	if err := library.(encoding.BinaryUnmarshaler).UnmarshalBinary(state); err != nil {
		t.Fatal(err)
	}
	library.Write(more)
	return api.Sum(library.Sum(nil))
}

// P2.3: by a sum, and how many bytes it is of, the sum of whatever stands behind them and their end is known.
func TestKnownByItsSum(t *testing.T) {
	for _, n := range edges {
		b := row(n)
		sum, long := shas.Of(b), ended(b)
		for _, m := range edges {
			more := row(m + 1)[1:]
			want := goneOn(t, sum, len(long), more)
			if got := shas.Of(slices.Concat(long, more)); got != want {
				t.Errorf("Of(%d bytes, their end, %d more) = %x, not %x", n, m, got, want)
			}
		}
	}
}

// P2.3: so it is of a run that goes on behind its own end, whatever was asked of it.
func TestRunKnownByItsSum(t *testing.T) {
	for _, n := range edges {
		b := row(n)
		r := shas.New()
		write(t, r, b)
		sum, long := r.Sum(), ended(b)
		write(t, r, long[n:])
		for m := range 130 {
			if got, want := r.Sum(), goneOn(t, sum, len(long), row(m)); got != want {
				t.Fatalf("Sum, of %d bytes, their end, %d more = %x, not %x", n, m, got, want)
			}
			write(t, r, row(m + 1)[m:])
		}
	}
}

// P2.3: how many bytes there were matters too: with another count the same numbers come to another sum.
func TestCountMatters(t *testing.T) {
	b := row(10)
	sum, long := shas.Of(b), ended(b)
	if shas.Of(long) == goneOn(t, sum, len(long)+64, nil) {
		t.Error("a block more or fewer, the same sum")
	}
}
