package sums_test

import (
	"bytes"
	"hash/adler32"
	"math/rand"
	"slices"
	"strings"
	"testing"

	"almoner/sums"
)

// lengths are round those at which a number goes round: 257 bytes of 255 bring the low one round, 23 the high one, 65521 of 0 the high one alone; and round 5552, up to which 32 bits hold it all.
var lengths = []int{0, 1, 2, 3, 22, 23, 24, 255, 256, 257, 258, 360, 5551, 5552, 5553, 5554, 11103, 11104, 11105, 65520, 65521, 65522, 131042, 131043}

// halves are those of a sum round the edges: below 65521 they may be kept, from it on they are divided.
var halves = []uint32{0, 1, 2, 254, 255, 32767, 32768, 65519, 65520, 65521, 65522, 65534, 65535}

// row is so many bytes, unlike their neighbours and those 64 behind them.
func row(n int) []byte {
	b := make([]byte, n)
	for i := range b {
		b[i] = byte(i*7 + i>>6*29 + 3)
	}
	return b
}

// kinds are so many bytes, of each kind that may bring out a fault: unlike ones, the lowest, the highest.
func kinds(n int) [][]byte {
	return [][]byte{row(n), make([]byte, n), bytes.Repeat([]byte{1}, n), bytes.Repeat([]byte{255}, n)}
}

// wanted is the sum by the document's words: byte by byte, both numbers divided each time.
func wanted(sum uint32, b []byte) uint32 {
	low, high := uint64(sum%65536)%65521, uint64(sum/65536)%65521
	for _, d := range b {
		low = (low + uint64(d)) % 65521
		high = (high + low) % 65521
	}
	return uint32(high*65536 + low)
}

// hold fails the test if Of, or On of the sum of none, is not the wanted sum.
func hold(t *testing.T, b []byte) {
	t.Helper()
	want := wanted(1, b)
	if want != adler32.Checksum(b) {
		t.Fatal("the test's own sum isn't the library's")
	}
	if got := sums.Of(b); got != want {
		t.Errorf("Of(%d bytes) = %d, not %d", len(b), got, want)
	}
	if got := sums.On(1, b); got != want {
		t.Errorf("On(1, %d bytes) = %d, not %d", len(b), got, want)
	}
}

// holdOn fails the test if On is not the wanted sum.
func holdOn(t *testing.T, sum uint32, b []byte) {
	t.Helper()
	if got, want := sums.On(sum, b), wanted(sum, b); got != want {
		t.Errorf("On(%d, %d bytes) = %d, not %d", sum, len(b), got, want)
	}
}

// P4.1: sums that the document tells, and others that are known.
func TestOfTold(t *testing.T) {
	for _, c := range []struct {
		text string
		told uint32
	}{
		{"", 1},
		{"a", 6422626},
		{"Wikipedia", 300286872},
		{"abc", 0x024d0127},
		{"message digest", 0x29750586},
		{"abcdefghijklmnopqrstuvwxyz", 0x90860b20},
		{strings.Repeat("1234567890", 8), 0x97b61069},
		{"\x00", 65537},
		{"\x00\x00\x00", 3<<16 + 1},
		{"\xff", 256<<16 + 256},
	} {
		if got := sums.Of([]byte(c.text)); got != c.told {
			t.Errorf("Of(%q) = %d, not %d", c.text, got, c.told)
		}
	}
}

// P4.1: of no bytes at all, whether the list is nil, empty, or has spare room.
func TestOfNone(t *testing.T) {
	for _, b := range [][]byte{nil, {}, row(70)[:0]} {
		if got := sums.Of(b); got != 1 {
			t.Errorf("Of(none) = %d", got)
		}
	}
}

// P4.1: each byte alone, and with each other one behind it.
func TestOfOneAndTwo(t *testing.T) {
	for a := range 256 {
		hold(t, []byte{byte(a)})
		for b := range 256 {
			hold(t, []byte{byte(a), byte(b)})
		}
	}
}

// P4.1: every length up to some hundreds, of bytes of several kinds.
func TestOfEveryLength(t *testing.T) {
	for n := range 600 {
		for _, b := range kinds(n) {
			hold(t, b)
		}
	}
}

// P4.1: lengths at which a number goes round.
func TestOfEdges(t *testing.T) {
	for _, n := range lengths {
		for _, b := range kinds(n) {
			hold(t, b)
		}
	}
}

// P4.1: the low number comes to 65520, which is kept, to 65521, which is 0, and to 65522, which is 1.
func TestOfLowRound(t *testing.T) {
	most := bytes.Repeat([]byte{255}, 256)
	for _, c := range []struct {
		last byte
		low  uint32
	}{{238, 65519}, {239, 65520}, {240, 0}, {241, 1}} {
		b := append(slices.Clone(most), c.last)
		hold(t, b)
		if got := sums.Of(b) % 65536; got != c.low {
			t.Errorf("the low half behind 256 bytes of 255 and a %d is %d, not %d", c.last, got, c.low)
		}
	}
}

// P4.1: the high number does so, too: of bytes of 0 it tells how many there are.
func TestOfHighRound(t *testing.T) {
	for _, c := range []struct {
		noughts int
		high    uint32
	}{{65519, 65519}, {65520, 65520}, {65521, 0}, {65522, 1}, {131042, 0}, {131043, 1}} {
		if got := sums.Of(make([]byte, c.noughts)); got != c.high<<16+1 {
			t.Errorf("Of(%d bytes of 0) = %d, not %d", c.noughts, got, c.high<<16+1)
		}
	}
}

// P4.1, R1: many bytes, so that both numbers go round again and again.
func TestOfMuch(t *testing.T) {
	for _, n := range []int{1 << 20, 1<<22 + 7} {
		for _, b := range kinds(n) {
			hold(t, b)
		}
	}
}

// P4.1: any bytes.
func TestOfAny(t *testing.T) {
	random := rand.New(rand.NewSource(4))
	for range 2000 {
		b := make([]byte, random.Intn(20000))
		random.Read(b)
		hold(t, b)
	}
}

// P4.1: the order of bytes counts, and how many there are, noughts ahead and behind too.
func TestOfOrder(t *testing.T) {
	seen := map[uint32]string{}
	for _, text := range []string{"", "\x00", "\x00\x00", "a", "\x00a", "a\x00", "ab", "ba", "aab", "aba", "baa"} {
		sum := sums.Of([]byte(text))
		if other, is := seen[sum]; is {
			t.Errorf("%q and %q have one sum", text, other)
		}
		seen[sum] = text
	}
}

// P4.2: what the document tells.
func TestOnTold(t *testing.T) {
	for _, c := range []struct {
		sum  uint32
		text string
		told uint32
	}{
		{1, "", 1},
		{1, "a", 6422626},
		{65537, "", 65537},
		{65521, "", 0},
		{6422626, "bc", 0x024d0127},
		{0, "", 0},
		{0, "\x00", 0},
		{0, "\x01", 65537},
		{65521 << 16, "", 0},
		{65535<<16 + 65535, "", 14<<16 + 14},
		{65520<<16 + 65520, "", 65520<<16 + 65520},
		{65520<<16 + 65520, "\x01", 65520 << 16},
		{65520, "\x02", 65537},
		{65521, "\x02", 2<<16 + 2},
	} {
		if got := sums.On(c.sum, []byte(c.text)); got != c.told {
			t.Errorf("On(%d, %q) = %d, not %d", c.sum, c.text, got, c.told)
		}
	}
}

// P4.2: sums of any halves, those that no bytes have among them, with bytes of several kinds behind them.
func TestOnEdges(t *testing.T) {
	for _, low := range halves {
		for _, high := range halves {
			for _, n := range []int{0, 1, 2, 3, 257, 5551, 5552, 5553} {
				for _, b := range kinds(n) {
					holdOn(t, high<<16+low, b)
				}
			}
		}
	}
}

// P4.2: the highest numbers, with the highest bytes behind them, at every length up to where 32 bits hold no more.
func TestOnHighest(t *testing.T) {
	most := bytes.Repeat([]byte{255}, 12000)
	want := uint32(65520<<16 + 65520)
	for n := range most {
		if got := sums.On(65520<<16+65520, most[:n]); got != want {
			t.Fatalf("On(the highest sum, %d bytes of 255) = %d, not %d", n, got, want)
		}
		want = wanted(want, most[:1])
	}
}

// P4.2: a half from 65521 on is as what is left of it.
func TestOnDivided(t *testing.T) {
	for half := uint32(65521); half < 65536; half++ {
		for _, n := range []int{0, 1, 5, 300, 6000} {
			b := row(n)
			if got, want := sums.On(half, b), sums.On(half-65521, b); got != want {
				t.Errorf("On(low half %d, %d bytes) = %d, not %d", half, n, got, want)
			}
			if got, want := sums.On(half<<16, b), sums.On((half-65521)<<16, b); got != want {
				t.Errorf("On(high half %d, %d bytes) = %d, not %d", half, n, got, want)
			}
		}
	}
}

// P4.2: it goes on from the bytes that the sum is of, wherever they are cut.
func TestOnGoesOn(t *testing.T) {
	for _, all := range kinds(700) {
		for at := range len(all) + 1 {
			if got, want := sums.On(sums.Of(all[:at]), all[at:]), wanted(1, all); got != want {
				t.Fatalf("On(Of(%d bytes), %d bytes) = %d, not %d", at, len(all)-at, got, want)
			}
		}
	}
	for _, n := range lengths {
		for _, m := range lengths {
			all := row(n + m)
			if got, want := sums.On(sums.Of(all[:n]), all[n:]), adler32.Checksum(all); got != want {
				t.Errorf("On(Of(%d bytes), %d bytes) = %d, not %d", n, m, got, want)
			}
		}
	}
}

// P4.2: it goes on part by part, however long they are, parts of none between them.
func TestOnByParts(t *testing.T) {
	for _, all := range kinds(70000) {
		want := wanted(1, all)
		for _, size := range []int{1, 2, 255, 5551, 5552, 5553, 65521, 70000} {
			sum := sums.Of(nil)
			for part := range slices.Chunk(all, size) {
				sum = sums.On(sums.On(sum, part), nil)
			}
			if sum != want {
				t.Errorf("On, in parts of %d bytes, = %d, not %d", size, sum, want)
			}
		}
	}
}

// P4.2: any sum, and any bytes.
func TestOnAny(t *testing.T) {
	random := rand.New(rand.NewSource(5))
	for range 3000 {
		b := make([]byte, random.Intn(2)*random.Intn(12000))
		random.Read(b)
		holdOn(t, random.Uint32(), b)
	}
}
