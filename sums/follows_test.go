package sums_test

import (
	"slices"
	"testing"

	"almoner/sums"
)

// swapped is b with the byte at i and the one behind it in each other's places.
func swapped(b []byte, i int) []byte {
	out := slices.Clone(b)
	out[i], out[i+1] = b[i+1], b[i]
	return out
}

// replaced is b with another byte at i.
func replaced(b []byte, i int, d byte) []byte {
	out := slices.Clone(b)
	out[i] = d
	return out
}

// places are some of a list's, the first and the last among them, and those round which a piece may end.
func places(n int) []int {
	var out []int
	for _, i := range []int{0, 1, n / 2, 5550, 5551, 5552, n - 2, n - 1} {
		if i >= 0 && i < n {
			out = append(out, i)
		}
	}
	return out
}

// P4.3: On of nothing is the sum itself just if both its halves are below 65521.
func TestOnOfNothing(t *testing.T) {
	for _, low := range halves {
		for _, high := range halves {
			sum := high<<16 + low
			for _, none := range [][]byte{nil, {}, row(9)[:0]} {
				got := sums.On(sum, none)
				if same, below := got == sum, low < 65521 && high < 65521; same != below {
					t.Errorf("On(%d, none) = %d: the same is %t", sum, got, same)
				}
			}
		}
	}
}

// P4.3: On of nothing is the sum itself, of each half that may be kept.
func TestOnOfNothingEveryHalf(t *testing.T) {
	for half := range uint32(65521) {
		for _, sum := range []uint32{half, half << 16, half<<16 + half, half<<16 + 65520 - half} {
			if got := sums.On(sum, nil); got != sum {
				t.Fatalf("On(%d, none) = %d", sum, got)
			}
		}
	}
}

// P4.3: the low half is one and all bytes together; the high one how many there are, and each as often as there are bytes from it on.
func TestHalves(t *testing.T) {
	for _, n := range append([]int{5, 17, 100, 1000, 1 << 20}, lengths...) {
		for _, b := range kinds(n) {
			low, high := uint64(1), uint64(n)
			for i, d := range b {
				low += uint64(d)
				high += uint64(d) * uint64(n-i)
			}
			got := sums.Of(b)
			if uint64(got%65536) != low%65521 || uint64(got/65536) != high%65521 {
				t.Errorf("of %d bytes: the halves are %d and %d, not %d and %d", n, got/65536, got%65536, high%65521, low%65521)
			}
		}
	}
}

// P4.3: both halves of whatever is answered are below 65521.
func TestHalvesBelow(t *testing.T) {
	for _, low := range halves {
		for _, high := range halves {
			for n := range 300 {
				for _, b := range kinds(n) {
					if got := sums.On(high<<16+low, b); got%65536 >= 65521 || got/65536 >= 65521 {
						t.Fatalf("On(%d, %d bytes) = %d", high<<16+low, n, got)
					}
				}
			}
		}
	}
}

// P4.3: with one byte another one, whichever and at whatever place, the sum is another one.
func TestOneByteAnother(t *testing.T) {
	for _, n := range []int{1, 2, 40, 6000, 65522} {
		for _, b := range kinds(n) {
			sum := sums.Of(b)
			for _, i := range places(n) {
				for _, off := range []byte{1, 2, 128, 254, 255} {
					other := sums.Of(replaced(b, i, b[i]+off))
					if other == sum || other%65536 == sum%65536 {
						t.Errorf("of %d bytes, with that at %d off by %d: %d and %d", n, i, off, sum, other)
					}
				}
			}
		}
	}
}

// P4.3: each byte for each other one.
func TestEveryByteAnother(t *testing.T) {
	for a := range 256 {
		for b := range a {
			first, second := row(9), row(9)
			first[4], second[4] = byte(a), byte(b)
			if sums.Of(first) == sums.Of(second) {
				t.Errorf("with a %d for a %d: the same sum", a, b)
			}
		}
	}
}

// P4.3: with two unlike neighbours that change their places the high half is another one, the low one is not.
func TestNeighboursChanged(t *testing.T) {
	for _, n := range []int{2, 3, 40, 6000, 65522} {
		b := row(n)
		b[0], b[n-1] = 255, 0
		sum := sums.Of(b)
		for _, i := range places(n - 1) {
			other := sums.Of(swapped(b, i))
			if unlike := b[i] != b[i+1]; unlike != (other/65536 != sum/65536) || other%65536 != sum%65536 {
				t.Errorf("of %d bytes, with those at %d and %d changed: %d and %d", n, i, i+1, sum, other)
			}
		}
	}
}

// P4.3: each two bytes that are neighbours.
func TestEveryTwoChanged(t *testing.T) {
	for a := range 256 {
		for b := range a {
			first := []byte{7, byte(a), byte(b), 9}
			sum, other := sums.Of(first), sums.Of(swapped(first, 1))
			if sum/65536 == other/65536 || sum%65536 != other%65536 {
				t.Errorf("with %d and %d changed: %d and %d", a, b, sum, other)
			}
		}
	}
}
