package shas_test

import (
	"bytes"
	"crypto/sha256"
	"encoding/hex"
	"math/rand"
	"slices"
	"strings"
	"testing"

	"almoner/api"
	"almoner/shas"
)

// edges are the lengths at which a block is full, or its end needs one more.
var edges = []int{0, 1, 3, 54, 55, 56, 57, 62, 63, 64, 65, 111, 118, 119, 120, 121, 127, 128, 129, 183, 184, 191, 192, 193}

// row is so many bytes, unlike their neighbours and those a block behind them.
func row(n int) []byte {
	b := make([]byte, n)
	for i := range b {
		b[i] = byte(i*7 + i>>6*29 + 3)
	}
	return b
}

// read is a sum that is told to the base 16.
func read(t *testing.T, told string) api.Sum {
	t.Helper()
	b, err := hex.DecodeString(strings.ReplaceAll(told, " ", ""))
	if err != nil || len(b) != 32 {
		t.Fatal(told, err)
	}
	return api.Sum(b)
}

// wanted is the sum by the library.
func wanted(b []byte) api.Sum { return sha256.Sum256(b) }

// write writes, and fails the test if that is an error.
func write(t *testing.T, r *shas.Run, b []byte) {
	t.Helper()
	if e := r.Write(b); e != api.OK {
		t.Fatalf("Write(%d bytes) = %d", len(b), e)
	}
}

// P2.1: sums that the document and FIPS 180-4's examples tell.
func TestOfTold(t *testing.T) {
	for _, c := range []struct{ text, told string }{
		{"", "e3b0c442 98fc1c14 9afbf4c8 996fb924 27ae41e4 649b934c a495991b 7852b855"},
		{"abc", "ba7816bf 8f01cfea 414140de 5dae2223 b00361a3 96177a9c b410ff61 f20015ad"},
		{"abcdbcdecdefdefgefghfghighijhijkijkljklmklmnlmnomnopnopq", "248d6a61 d20638b8 e5c02693 0c3e6039 a33ce459 64ff2167 f6ecedd4 19db06c1"},
		{"abcdefghbcdefghicdefghijdefghijkefghijklfghijklmghijklmnhijklmnoijklmnopjklmnopqklmnopqrlmnopqrsmnopqrstnopqrstu", "cf5b16a7 78af8380 036ce59e 7b049237 0b249b11 e8f07a51 afac4503 7afee9d1"},
		{strings.Repeat("a", 1000000), "cdc76e5c 9914fb92 81a1c7e2 84d73e67 f1809a48 a497200e 046d39cc c7112cd0"},
	} {
		if got := shas.Of([]byte(c.text)); got != read(t, c.told) {
			t.Errorf("Of(%d bytes) = %x, not %s", len(c.text), got, c.told)
		}
	}
}

// P2.1: of no bytes at all, whether the list is nil, empty, or has spare room.
func TestOfNone(t *testing.T) {
	for _, b := range [][]byte{nil, {}, row(70)[:0]} {
		if got := shas.Of(b); got != wanted(nil) {
			t.Errorf("Of(none) = %x", got)
		}
	}
}

// P2.1: every length up to some blocks, the edges among them, and bytes of several kinds.
func TestOfEveryLength(t *testing.T) {
	for n := range 600 {
		for _, b := range [][]byte{row(n), make([]byte, n), bytes.Repeat([]byte{255}, n), bytes.Repeat([]byte{128}, n)} {
			if got := shas.Of(b); got != wanted(b) {
				t.Errorf("Of(%d bytes) = %x, not %x", n, got, wanted(b))
			}
		}
	}
}

// P2.1: whatever bytes there are, each bit counts: a table's number that is wrong anywhere is seen.
func TestOfAnyBytes(t *testing.T) {
	r := rand.New(rand.NewSource(1))
	for range 5000 {
		b := make([]byte, r.Intn(300))
		r.Read(b)
		if got := shas.Of(b); got != wanted(b) {
			t.Fatalf("Of(%x) = %x, not %x", b, got, wanted(b))
		}
	}
	for i := range 65 * 8 {
		b := make([]byte, 65)
		b[i/8] = 1 << (i % 8)
		if got := shas.Of(b); got != wanted(b) {
			t.Errorf("Of(65 bytes, of which bit %d is 1) = %x, not %x", i, got, wanted(b))
		}
	}
}

// P2.1: how many bits there were, in each of the bytes that tell it, as far as the document's bound goes.
func TestOfMuch(t *testing.T) {
	for _, n := range []int{31, 32, 1<<13 - 1, 1 << 13, 1<<13 + 1, 1<<21 - 1, 1 << 21, 1<<21 + 1} {
		b := row(n)
		if got := shas.Of(b); got != wanted(b) {
			t.Errorf("Of(%d bytes) = %x, not %x", n, got, wanted(b))
		}
	}
	// More bits than 32 of them count.
	part := row(1 << 20)
	r, library := shas.New(), sha256.New()
	for range 513 {
		write(t, r, part)
		library.Write(part)
	}
	if got := r.Sum(); got != api.Sum(library.Sum(nil)) {
		t.Errorf("Sum, of %d bytes = %x", 513<<20, got)
	}
}

// P2.2: the document's example, and a run to which nothing was written.
func TestRunTold(t *testing.T) {
	r := shas.New()
	if r == nil {
		t.Fatal("New is nil")
	}
	if got := r.Sum(); got != wanted(nil) {
		t.Errorf("Sum, of none = %x", got)
	}
	write(t, r, []byte("ab"))
	write(t, r, []byte("c"))
	if got := r.Sum(); got != wanted([]byte("abc")) {
		t.Errorf("Sum, of ab and c = %x", got)
	}
}

// P2.2: parts of every length up to more than two blocks, byte by byte too; the sum is asked behind each, twice, and the run goes on behind that.
func TestRunInParts(t *testing.T) {
	all := row(400)
	for size := 1; size <= 140; size++ {
		r := shas.New()
		for from := 0; from < len(all); from += size {
			to := min(from+size, len(all))
			write(t, r, all[from:to])
			want := wanted(all[:to])
			if first, second := r.Sum(), r.Sum(); first != want || second != want {
				t.Fatalf("Sum, of %d bytes in parts of %d = %x, then %x, not %x", to, size, first, second, want)
			}
		}
	}
}

// P2.2: the same parts, asked at the end alone.
func TestRunAskedOnce(t *testing.T) {
	all := row(400)
	for size := 1; size <= 140; size++ {
		r := shas.New()
		for part := range slices.Chunk(all, size) {
			write(t, r, part)
		}
		if got := r.Sum(); got != wanted(all) {
			t.Errorf("Sum, in parts of %d = %x", size, got)
		}
	}
}

// P2.2: two parts, split at each edge, of which either may be empty.
func TestRunSplit(t *testing.T) {
	for _, n := range edges {
		all := row(n)
		for at := range n + 1 {
			r := shas.New()
			write(t, r, all[:at])
			write(t, r, all[at:])
			if got := r.Sum(); got != wanted(all) {
				t.Errorf("Sum, of %d and %d bytes = %x", at, n-at, got)
			}
		}
	}
}

// P2.2: no bytes change nothing, however often they are written, at each edge.
func TestWriteNone(t *testing.T) {
	for _, n := range edges {
		r := shas.New()
		for range 3 {
			write(t, r, nil)
			write(t, r, []byte{})
		}
		write(t, r, row(n))
		for range 3 {
			write(t, r, nil)
			write(t, r, row(9)[:0])
		}
		if got := r.Sum(); got != wanted(row(n)) {
			t.Errorf("Sum, of %d bytes and none = %x", n, got)
		}
	}
}

// P2.2: parts of any length, asked at any time; what is written all at once has the same sum.
func TestRunAnyParts(t *testing.T) {
	random := rand.New(rand.NewSource(2))
	for range 500 {
		r := shas.New()
		var all []byte
		for range random.Intn(12) {
			part := make([]byte, random.Intn(200)*random.Intn(2))
			random.Read(part)
			all = append(all, part...)
			write(t, r, part)
			if random.Intn(2) == 0 && r.Sum() != shas.Of(all) {
				t.Fatalf("Sum, of %d bytes: not Of of them", len(all))
			}
		}
		if got := r.Sum(); got != wanted(all) || got != shas.Of(all) {
			t.Fatalf("Sum, of %d bytes = %x", len(all), got)
		}
	}
}

// P2.2, R3: a run that is not there, and one that New didn't make: an error, 32 noughts, and it stays so.
func TestNoRun(t *testing.T) {
	for name, r := range map[string]*shas.Run{"nil": nil, "zero": {}, "new": new(shas.Run)} {
		for _, b := range [][]byte{nil, {}, {1}, row(64), row(200)} {
			if e := r.Write(b); e != api.ErrNil {
				t.Errorf("%s: Write(%d bytes) = %d", name, len(b), e)
			}
			if got := r.Sum(); got != (api.Sum{}) {
				t.Errorf("%s: Sum = %x", name, got)
			}
		}
	}
}
