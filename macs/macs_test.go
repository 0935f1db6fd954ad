package macs_test

import (
	"bytes"
	"crypto/hmac"
	"crypto/sha256"
	"encoding/hex"
	"math/rand"
	"slices"
	"strings"
	"testing"

	"almoner/api"
	"almoner/macs"
	"almoner/shas"
)

// keySizes are lengths of keys round the one that a block has, and longer ones.
var keySizes = []int{0, 1, 2, 31, 32, 33, 62, 63, 64, 65, 66, 127, 128, 129, 191, 192, 193, 1000}

// sizes are lengths of what is summed up: at some a block is full, or its end needs one more.
var sizes = []int{0, 1, 31, 32, 55, 56, 63, 64, 65, 119, 120, 127, 128, 129, 300}

// row is so many bytes, unlike their neighbours and those a block behind them.
func row(n int) []byte {
	b := make([]byte, n)
	for i := range b {
		b[i] = byte(i*7 + i>>6*29 + 3)
	}
	return b
}

// read is a sum that is told to the base 16.
func read(t *testing.T, told string) api.Sum {
	t.Helper()
	b, err := hex.DecodeString(strings.ReplaceAll(told, " ", ""))
	if err != nil || len(b) != 32 {
		t.Fatal(told, err)
	}
	return api.Sum(b)
}

// against is each byte of b against a mask.
func against(b []byte, mask byte) []byte {
	out := slices.Clone(b)
	for i := range out {
		out[i] ^= mask
	}
	return out
}

// keyBlock is a key's block, by the document's words and the library's sums.
func keyBlock(key []byte) []byte {
	if len(key) > 64 {
		sum := sha256.Sum256(key)
		key = sum[:]
	}
	return append(slices.Clone(key), make([]byte, 64-len(key))...)
}

// wanted is the sum by the document's words and the library's sums.
func wanted(key []byte, parts ...[]byte) api.Sum {
	block := keyBlock(key)
	inner := sha256.Sum256(append(against(block, 54), slices.Concat(parts...)...))
	return sha256.Sum256(append(against(block, 92), inner[:]...))
}

// byLibrary is the library's own HMAC.
func byLibrary(key []byte, parts ...[]byte) api.Sum {
	mac := hmac.New(sha256.New, key)
	for _, part := range parts {
		mac.Write(part)
	}
	return api.Sum(mac.Sum(nil))
}

// hold fails the test if the sum is not the wanted one.
func hold(t *testing.T, key []byte, parts ...[]byte) {
	t.Helper()
	want := wanted(key, parts...)
	if want != byLibrary(key, parts...) {
		t.Fatal("the test's own sum isn't the library's")
	}
	if got := macs.Of(key, parts...); got != want {
		t.Errorf("Of(key of %d bytes, %d parts of %d bytes in all) = %x, not %x", len(key), len(parts), len(slices.Concat(parts...)), got, want)
	}
}

// P3.1: sums that the document and the test cases of RFC 4231 tell.
func TestOfTold(t *testing.T) {
	repeated := func(b byte, n int) string { return strings.Repeat(string([]byte{b}), n) }
	for _, c := range []struct{ key, text, told string }{
		{"Jefe", "what do ya want for nothing?", "5bdcc146 bf60754e 6a042426 089575c7 5a003f08 9d273983 9dec58b9 64ec3843"},
		{repeated(0x0b, 20), "Hi There", "b0344c61 d8db3853 5ca8afce af0bf12b 881dc200 c9833da7 26e9376c 2e32cff7"},
		{repeated(0xaa, 20), repeated(0xdd, 50), "773ea91e 36800e46 854db8eb d09181a7 2959098b 3ef8c122 d9635514 ced565fe"},
		{string(sequence(25)), repeated(0xcd, 50), "82558a38 9a443c0e a4cc8198 99f2083a 85f0faa3 e578f807 7a2e3ff4 6729665b"},
		{repeated(0xaa, 131), "Test Using Larger Than Block-Size Key - Hash Key First", "60e43159 1ee0b67f 0d8a26aa cbf5b77f 8e0bc621 3728c514 0546040f 0ee37f54"},
		{repeated(0xaa, 131), "This is a test using a larger than block-size key and a larger than block-size data. The key needs to be hashed before being used by the HMAC algorithm.", "9b09ffa7 1b942fcb 27635fbc d5b0e944 bfdc6364 4f071393 8a7f5153 5c3a35e2"},
		{"", "", "b613679a 0814d9ec 772f95d7 78c35fc5 ff1697c4 93715653 c6c71214 4292c5ad"},
	} {
		if got := macs.Of([]byte(c.key), []byte(c.text)); got != read(t, c.told) {
			t.Errorf("Of(key of %d bytes, %q) = %x, not %s", len(c.key), c.text, got, c.told)
		}
	}
}

// sequence is the numbers from 1 to n.
func sequence(n int) []byte {
	b := make([]byte, n)
	for i := range b {
		b[i] = byte(i + 1)
	}
	return b
}

// P3.1: the document's example, told in parts.
func TestOfToldInParts(t *testing.T) {
	want := read(t, "5bdcc146 bf60754e 6a042426 089575c7 5a003f08 9d273983 9dec58b9 64ec3843")
	if got := macs.Of([]byte("Jefe"), []byte("what do ya want"), []byte(" "), []byte("for nothing?")); got != want {
		t.Errorf("Of(Jefe, three parts) = %x, not %x", got, want)
	}
}

// P3.1: every length of a key up to some blocks, of bytes of several kinds.
func TestOfEveryKey(t *testing.T) {
	for n := range 200 {
		for _, key := range [][]byte{row(n), make([]byte, n), bytes.Repeat([]byte{255}, n), bytes.Repeat([]byte{54}, n), bytes.Repeat([]byte{92}, n)} {
			hold(t, key)
			hold(t, key, row(40))
		}
	}
}

// P3.1: keys round a block's length, with what is summed up round it, too.
func TestOfEdges(t *testing.T) {
	for _, n := range keySizes {
		for _, m := range sizes {
			hold(t, row(n), row(m))
		}
	}
}

// P3.1: no key, whether the list is nil, empty, or has spare room, is one of noughts.
func TestOfNoKey(t *testing.T) {
	for _, key := range [][]byte{nil, {}, row(70)[:0]} {
		hold(t, key)
		hold(t, key, row(10))
		if macs.Of(key, row(10)) != macs.Of(make([]byte, 64), row(10)) {
			t.Error("no key isn't one of noughts")
		}
	}
}

// P3.1: no parts at all, and parts of no bytes, come to the sum of no bytes.
func TestOfNoParts(t *testing.T) {
	for _, n := range keySizes {
		key := row(n)
		want := wanted(key, nil)
		for _, parts := range [][][]byte{nil, {}, {nil}, {{}}, {nil, {}, nil}, {row(70)[:0]}, make([][]byte, 100)} {
			if got := macs.Of(key, parts...); got != want {
				t.Errorf("Of(key of %d bytes, %d parts of none) = %x, not %x", n, len(parts), got, want)
			}
		}
	}
}

// P3.1: however the same bytes are cut into parts, into two at each place, into equal ones, with parts of none between: one sum.
func TestOfCut(t *testing.T) {
	all := row(150)
	for _, n := range []int{0, 5, 63, 64, 65, 200} {
		key := row(n)
		want := wanted(key, all)
		for at := range len(all) + 1 {
			if got := macs.Of(key, all[:at], all[at:]); got != want {
				t.Fatalf("Of(key of %d bytes, %d and %d bytes) = %x, not %x", n, at, len(all)-at, got, want)
			}
		}
		for size := 1; size <= 70; size++ {
			var parts [][]byte
			for part := range slices.Chunk(all, size) {
				parts = append(parts, nil, part, part[:0])
			}
			if got := macs.Of(key, parts...); got != want {
				t.Fatalf("Of(key of %d bytes, parts of %d) = %x, not %x", n, size, got, want)
			}
		}
	}
}

// P3.1: all parts count, and in their order; and the key is no part.
func TestOfOrder(t *testing.T) {
	key, a, b, c := row(9), row(20), row(31)[3:], row(5)[1:]
	seen := map[api.Sum]string{}
	for name, sum := range map[string]api.Sum{
		"none": macs.Of(key), "a": macs.Of(key, a), "ab": macs.Of(key, a, b), "ba": macs.Of(key, b, a), "abc": macs.Of(key, a, b, c),
		"acb": macs.Of(key, a, c, b), "aab": macs.Of(key, a, a, b), "key for a": macs.Of(a, key), "key ahead": macs.Of(nil, key, a),
	} {
		if seen[sum] != "" {
			t.Errorf("%s and %s have one sum", name, seen[sum])
		}
		seen[sum] = name
	}
	hold(t, key, a, b, c)
	hold(t, key, a, a, a)
	hold(t, a, a)
}

// P3.1: each bit of a key counts, that of a block's last byte and of one byte more, too.
func TestOfEachBitOfAKey(t *testing.T) {
	for _, n := range []int{63, 64, 65, 130} {
		for i := range n * 8 {
			key := make([]byte, n)
			key[i/8] = 1 << (i % 8)
			hold(t, key, []byte("text"))
		}
	}
}

// P3.1: noughts behind a key that fits into a block change nothing; one more than fits does.
func TestOfNoughtsBehind(t *testing.T) {
	text := row(33)
	for n := range 65 {
		key := row(n)
		want := macs.Of(key, text)
		for more := range 64 - n + 1 {
			if macs.Of(append(slices.Clone(key), make([]byte, more)...), text) != want {
				t.Fatalf("a key of %d bytes and %d noughts behind it: another sum", n, more)
			}
		}
		if macs.Of(append(slices.Clone(key), make([]byte, 65-n)...), text) == want {
			t.Fatalf("a key of %d bytes and noughts up to 65: the same sum", n)
		}
	}
}

// P3.1: a key of more than 64 bytes is as its sum; one of 64 bytes is not.
func TestOfLongKeyIsItsSum(t *testing.T) {
	text := row(33)
	for _, n := range []int{0, 1, 32, 63, 64, 65, 66, 128, 5000} {
		sum := shas.Of(row(n))
		if same := macs.Of(row(n), text) == macs.Of(sum[:], text); same != (n > 64) {
			t.Errorf("a key of %d bytes and its sum: one sum is %t", n, same)
		}
	}
}

// P3.1: any key and any parts.
func TestOfAny(t *testing.T) {
	random := rand.New(rand.NewSource(3))
	for range 3000 {
		key := make([]byte, random.Intn(140))
		random.Read(key)
		parts := make([][]byte, random.Intn(5))
		for i := range parts {
			parts[i] = make([]byte, random.Intn(2)*random.Intn(150))
			random.Read(parts[i])
		}
		hold(t, key, parts...)
	}
}

// P3.1, R1: long keys, long parts, many parts.
func TestOfMuch(t *testing.T) {
	hold(t, row(1<<20), row(1<<20+1))
	parts := make([][]byte, 1<<16)
	for i := range parts {
		parts[i] = row(i % 5)
	}
	hold(t, row(64), parts...)
}

// P3.2: a sum and itself; sums that part in one bit alone, in each of their bytes, the first and the last among them.
func TestSameByOneBit(t *testing.T) {
	for _, a := range []api.Sum{{}, shas.Of(nil), shas.Of([]byte("abc")), api.Sum(bytes.Repeat([]byte{255}, 32))} {
		if b := a; !macs.Same(a, b) || !macs.Same(a, a) {
			t.Errorf("Same(%x, itself) is false", a)
		}
		for i := range 256 {
			b := a
			b[i/8] ^= 1 << (i % 8)
			if macs.Same(a, b) || macs.Same(b, a) {
				t.Errorf("Same(%x, with bit %d turned) is true", a, i)
			}
		}
	}
}

// P3.2: sums that part in one byte alone, by each number that a byte may be off.
func TestSameByOneByte(t *testing.T) {
	a := shas.Of(row(3))
	for i := range a {
		for off := 1; off < 256; off++ {
			b := a
			b[i] += byte(off)
			if macs.Same(a, b) || macs.Same(b, a) {
				t.Fatalf("Same, of sums whose byte %d alone is off by %d, is true", i, off)
			}
		}
	}
}

// P3.2: sums that part in more than one byte, where what parts them would cancel out if it were added or taken against each other.
func TestSameByMoreBytes(t *testing.T) {
	a := shas.Of(row(4))
	for i := range a {
		for j := range i {
			turned, moved, swapped := a, a, a
			turned[i], turned[j] = a[i]^1, a[j]^1
			moved[i], moved[j] = a[i]+1, a[j]-1
			swapped[i], swapped[j] = a[j], a[i]
			for _, b := range []api.Sum{turned, moved, swapped} {
				if got := macs.Same(a, b); got != (a == b) {
					t.Errorf("Same, of sums that part in bytes %d and %d = %t", i, j, got)
				}
			}
		}
	}
	whole := api.Sum(against(a[:], 255))
	for n := range a {
		begun, ended := a, a
		copy(begun[n:], whole[n:])
		copy(ended[:n+1], whole[:n+1])
		if macs.Same(a, begun) || macs.Same(a, ended) {
			t.Errorf("Same, of sums that have %d bytes in common, or %d, is true", n, 31-n)
		}
	}
}

// P3.2: sums of one key and one text are the same, those of others are not.
func TestSameOfSums(t *testing.T) {
	a := macs.Of(row(5), row(6))
	if !macs.Same(a, macs.Of(row(5), row(2), row(6)[2:])) {
		t.Error("one key and one text: not the same")
	}
	if macs.Same(a, macs.Of(row(4), row(6))) || macs.Same(a, macs.Of(row(5), row(7))) || macs.Same(a, api.Sum{}) {
		t.Error("another key, another text, or none: the same")
	}
}
