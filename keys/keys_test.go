package keys_test

import (
	"bytes"
	"crypto/sha256"
	"encoding/binary"
	"encoding/hex"
	"fmt"
	"math"
	"math/rand"
	"slices"
	"strings"
	"testing"

	"almoner/api"
	"almoner/keys"
	"almoner/nums"
	"almoner/shas"
)

// tenants are those whose numbers fill another byte, and what is round them.
var tenants = []uint32{0, 1, 2, 31, 127, 128, 254, 255, 256, 257, 65535, 65536, 1<<24 - 1, 1 << 24, 0x01020304, 1 << 31, math.MaxUint32 - 1, math.MaxUint32}

// resources are those that there are, those whose lowest byte is another resource's, and the least and the greatest number.
var resources = []int{0, 1, 2, 3, 127, 128, 254, 255, 256, 257, 258, 511, 512, 1 << 16, 1<<16 + 2, 1<<32 - 1, 1 << 32, 1<<40 + 77, -1, -2, -255, -256, -257, math.MaxInt, math.MaxInt - 1, math.MinInt, math.MinInt + 1}

// below and above are depths that there are not.
var below = []int{-1, -2, -7, -8, -9, -255, -256, -257, math.MinInt + 1, math.MinInt}
var above = []int{257, 258, 263, 264, 265, 511, 512, 1 << 32, 1<<32 + 5, math.MaxInt - 1, math.MaxInt}

// lengths are round those at which bytes, the mark and the key ahead, fill a block of SHA-256, or their end needs one more, and round a block of bytes alone.
var lengths = []int{1, 2, 3, 21, 22, 23, 24, 29, 30, 31, 32, 33, 34, 62, 63, 64, 65, 66, 85, 86, 87, 94, 95, 96, 127, 128, 129, 255, 256, 257, 1000, 16384, 16385}

// row is so many bytes, unlike their neighbours and those 64 behind them.
func row(n int) []byte {
	b := make([]byte, n)
	for i := range b {
		b[i] = byte(i*7 + i>>6*29 + 3)
	}
	return b
}

// sum is one of all bytes unlike, another one for each number.
func sum(n int) api.Sum { return sha256.Sum256([]byte{byte(n), byte(n >> 8), byte(n >> 16), 's'}) }

// filled is a sum of one byte again and again.
func filled(b byte) api.Sum { return api.Sum(bytes.Repeat([]byte{b}, 32)) }

// text is a key as a text of its bits, from depth 0 on.
func text(k api.Sum) string {
	var b strings.Builder
	for _, d := range k {
		fmt.Fprintf(&b, "%08b", d)
	}
	return b.String()
}

// one is a key of which just the bit at that depth is set.
func one(t *testing.T, depth int) api.Sum {
	t.Helper()
	var k api.Sum
	k[depth/8] = []byte{128, 64, 32, 16, 8, 4, 2, 1}[depth%8]
	if want := strings.Repeat("0", depth) + "1" + strings.Repeat("0", 255-depth); text(k) != want {
		t.Fatalf("the key with the bit at %d is %s", depth, text(k))
	}
	return k
}

// wantedKey is a key by the document's words.
func wantedKey(tenant uint32, resource int) api.Sum {
	b := binary.BigEndian.AppendUint32([]byte("key"), tenant)
	return sha256.Sum256(append(b, byte(resource)))
}

// wantedValue is what stands at a key, summed up by the document's words.
func wantedValue(k api.Sum, v []byte) api.Sum {
	if len(v) == 0 {
		return sha256.Sum256([]byte{2})
	}
	return sha256.Sum256(slices.Concat([]byte{3}, k[:], v))
}

// wantedSide is both sides'.
func wantedSide(l, r api.Sum) api.Sum {
	return sha256.Sum256(slices.Concat([]byte{4}, l[:], r[:]))
}

// wantedEmpty is, of each depth from 0 to 256, the sum of what is empty.
func wantedEmpty() [257]api.Sum {
	var all [257]api.Sum
	all[256] = sha256.Sum256([]byte{2})
	for depth := 255; depth >= 0; depth-- {
		all[depth] = wantedSide(all[depth+1], all[depth+1])
	}
	return all
}

// is fails the test if the sum is not the one that is wanted.
func is(t *testing.T, what string, got, want api.Sum) {
	t.Helper()
	if got != want {
		t.Errorf("%s = %x, not %x", what, got, want)
	}
}

// digits is a sum of its digits of 16.
func digits(t *testing.T, text string) api.Sum {
	t.Helper()
	b, err := hex.DecodeString(text)
	if err != nil || len(b) != len(api.Sum{}) {
		t.Fatalf("%q is no sum", text)
	}
	return api.Sum(b)
}

// P14.1: known keys, worked out by another program.
func TestOfKnown(t *testing.T) {
	for _, c := range []struct {
		tenant   uint32
		resource int
		told     string
	}{
		{0, 0, "d40ed0840a8bb56f415114386e59ac4179bd259d439eba5aaef47f82754c1487"},
		{0, 1, "fecd01900e3a962498b0201b7147d3a9968a38dba406be39ca449155e02e5533"},
		{0, 2, "0ed158a7bf2a284c70833088cbab0c81e445340d9d535b03b00f21095c14c887"},
		{1, 0, "cdea24bdfb47278a4b89adb5e49cd41ae42d8d84d99de4fce342d096d920dee2"},
		{255, 255, "e08c522531cafd82ae7895400b70c8334370a4dffedb1448f947e8e4a4821463"},
		{256, 256, "6a8fcd57580bdc234b32a0f83b9a59e62cf4435f0a2be723751d66988c19576a"},
		{256, -1, "28539657b6b0343001475fce6be975abe1b1b19fd6cd03c193469b7dd2ad1885"},
		{math.MaxUint32, 2, "f533a8d5ed8f5e9757ded1df98d1901b0ff74b51f546c705d11159a9ea519c10"},
		{math.MaxUint32, 1<<40 + 77, "bacfd52e8f02c0f2e3b37aea15329ef8be445bb48393eb9a0452de4ee3709e5e"},
	} {
		is(t, fmt.Sprintf("Of(%d, %d)", c.tenant, c.resource), keys.Of(c.tenant, c.resource), digits(t, c.told))
	}
}

// P14.1: each tenant's number in four bytes, and the lowest byte of each resource's, below 0 and far greater ones too.
func TestOf(t *testing.T) {
	for _, tenant := range tenants {
		for _, resource := range resources {
			got := keys.Of(tenant, resource)
			what := fmt.Sprintf("Of(%d, %d)", tenant, resource)
			is(t, what, got, wantedKey(tenant, resource))
			is(t, what+" by nums.Put and shas.Of", got, shas.Of(nums.Put(nums.Put([]byte("key"), uint64(tenant), 4), uint64(resource), 1)))
		}
	}
}

// P14.1: each resource's number of one byte is another key, and each one 256 farther on or back is the same.
func TestOfLowestByte(t *testing.T) {
	seen := map[api.Sum]int{}
	for resource := range 256 {
		k := keys.Of(7, resource)
		if other, was := seen[k]; was {
			t.Errorf("the resources %d and %d have one key", other, resource)
		}
		seen[k] = resource
		for _, far := range []int{256, -256, 512, 1 << 32, -1 << 32, math.MinInt, math.MaxInt - 255} {
			is(t, fmt.Sprintf("Of(7, %d)", resource+far), keys.Of(7, resource+far), k)
		}
	}
}

// P14.1: no two tenants have one key, nor has a tenant that of another one's other resource.
func TestOfOthers(t *testing.T) {
	seen := map[api.Sum][2]int{}
	for tenant := range 600 {
		for resource := range api.Resources {
			k := keys.Of(uint32(tenant), resource)
			if other, was := seen[k]; was {
				t.Errorf("%v and %v have one key", other, [2]int{tenant, resource})
			}
			seen[k] = [2]int{tenant, resource}
		}
	}
	for bit := range 32 {
		if keys.Of(1<<bit, 0) == keys.Of(0, 0) {
			t.Errorf("the tenant's bit %d is not told", bit)
		}
	}
}

// P14.2: of a key with just one bit, the bit is 1 at its depth and 0 at each other one.
func TestBitOfOne(t *testing.T) {
	for set := range 256 {
		k := one(t, set)
		for depth := range 256 {
			want := 0
			if depth == set {
				want = 1
			}
			if got := keys.Bit(k, depth); got != want {
				t.Errorf("of the key with the bit at %d, Bit at %d = %d", set, depth, got)
			}
		}
	}
}

// P14.2: a key of noughts has no bit, one of 255s each, one of 255s but one bit all others.
func TestBitOfAll(t *testing.T) {
	for depth := range 256 {
		if got := keys.Bit(api.Sum{}, depth); got != 0 {
			t.Errorf("of noughts, Bit at %d = %d", depth, got)
		}
		if got := keys.Bit(filled(255), depth); got != 1 {
			t.Errorf("of 255s, Bit at %d = %d", depth, got)
		}
	}
	for clear := range 256 {
		k := filled(255)
		for i, d := range one(t, clear) {
			k[i] ^= d
		}
		for depth := range 256 {
			if got := keys.Bit(k, depth); (got == 0) != (depth == clear) {
				t.Errorf("of all bits but that at %d, Bit at %d = %d", clear, depth, got)
			}
		}
	}
}

// P14.2: what the document tells of it.
func TestBitTold(t *testing.T) {
	for _, c := range []struct {
		k     api.Sum
		depth int
		want  int
	}{
		{api.Sum{128}, 0, 1}, {api.Sum{128}, 1, 0}, {api.Sum{1}, 7, 1}, {api.Sum{1}, 8, 0}, {api.Sum{1: 128}, 8, 1},
		{api.Sum{31: 1}, 255, 1}, {api.Sum{31: 1}, 254, 0}, {filled(255), 256, 0}, {filled(255), -1, 0}, {sum(1), 256, 0}, {sum(1), -1, 0},
	} {
		if got := keys.Bit(c.k, c.depth); got != c.want {
			t.Errorf("Bit(%x, %d) = %d", c.k, c.depth, got)
		}
	}
}

// P14.2: there is no other depth, whatever the key.
func TestBitOutside(t *testing.T) {
	for _, depth := range slices.Concat(below, above, []int{256}) {
		for _, k := range []api.Sum{{}, filled(255), {128}, {1}, {31: 1}, {31: 128}, sum(1), sum(2)} {
			if got := keys.Bit(k, depth); got != 0 {
				t.Errorf("Bit(%x, %d) = %d", k, depth, got)
			}
		}
	}
	for far := 256; far < 3000; far++ {
		if keys.Bit(filled(255), far) != 0 || keys.Bit(filled(255), 255-far) != 0 {
			t.Errorf("there is a bit at %d or at %d", far, 255-far)
		}
	}
}

// P14.2: any keys, at each depth.
func TestBitAny(t *testing.T) {
	for n := range 300 {
		k := sum(n)
		var b strings.Builder
		for depth := range 256 {
			fmt.Fprint(&b, keys.Bit(k, depth))
		}
		if b.String() != text(k) {
			t.Errorf("the bits of %x are %s", k, b.String())
		}
	}
}

// P14.3: of each depth the sum of the next one's twice, up from the last one, that of the byte 2.
func TestEmpty(t *testing.T) {
	seen := map[api.Sum]int{}
	for depth, want := range wantedEmpty() {
		got := keys.Empty(depth)
		is(t, fmt.Sprintf("Empty(%d)", depth), got, want)
		if depth < 256 {
			is(t, fmt.Sprintf("Empty(%d) by Side", depth), got, keys.Side(keys.Empty(depth+1), keys.Empty(depth+1)))
		}
		if other, was := seen[got]; was {
			t.Errorf("what is empty has one sum at %d and at %d", other, depth)
		}
		seen[got] = depth
	}
}

// P14.3: known sums, worked out by another program.
func TestEmptyKnown(t *testing.T) {
	is(t, "Empty(256)", keys.Empty(256), digits(t, "dbc1b4c900ffe48d575b5da5c638040125f65db0fe3e24494b76ea986457d986"))
	is(t, "Empty(255)", keys.Empty(255), digits(t, "8628e22d524f2a7673cccffc6fb893fc26ff473fe0db3425ec5f73c3154a6a04"))
	is(t, "Empty(128)", keys.Empty(128), digits(t, "0ce236225a57598fdb978276f08fc00b544c263797e5bcab330e27c98a347e5b"))
	is(t, "Empty(1)", keys.Empty(1), digits(t, "e9c297fd12d7a20b1d1b422d43449a2cf7ba9aaecada1c35279ea6b86da30c7c"))
	is(t, "Empty(0)", keys.Empty(0), digits(t, "e05efe8b56a122601ecf9bcf355d09dd865dc056a0e4a58e4785b3e66cdf32b9"))
}

// P14.3: below 0 it is that of 0, above 256 that of 256.
func TestEmptyOutside(t *testing.T) {
	all := wantedEmpty()
	for _, depth := range below {
		is(t, fmt.Sprintf("Empty(%d)", depth), keys.Empty(depth), all[0])
	}
	for _, depth := range above {
		is(t, fmt.Sprintf("Empty(%d)", depth), keys.Empty(depth), all[256])
	}
}

// P14.3: of no bytes it is Empty of 256, whatever the key, whether the list is nil, empty, or has spare room.
func TestValueOfNone(t *testing.T) {
	for _, k := range []api.Sum{{}, filled(255), sum(1), keys.Of(0, 0), keys.Empty(256)} {
		for _, v := range [][]byte{nil, {}, row(70)[:0], row(70)[70:]} {
			got := keys.Value(k, v)
			is(t, "Value of none", got, keys.Empty(256))
			is(t, "Value of none", got, wantedValue(k, nil))
		}
	}
}

// P14.3: known sums, worked out by another program.
func TestValueAndSideKnown(t *testing.T) {
	is(t, "Value(noughts, a)", keys.Value(api.Sum{}, []byte("a")), digits(t, "8abbac9981a48d33600c08753ae7382be6cb961ceac71053bc966037be16a531"))
	is(t, "Value(255s, abc)", keys.Value(filled(255), []byte("abc")), digits(t, "f7ca10a4a09281f0dc29bcc9c91e054f1d34697be27553916a9fd7b02525aa23"))
	is(t, "Side(noughts, noughts)", keys.Side(api.Sum{}, api.Sum{}), digits(t, "59ef1a5a00f35b1a722da56ca70b52a721f33998634d4fa4259301f170f7b6bd"))
	is(t, "Side(noughts, 255s)", keys.Side(api.Sum{}, filled(255)), digits(t, "bca9d9fdd09de0173b2a0d0768986b7f32847f01f4c7725ed6477c1c132cb188"))
	is(t, "Side(255s, noughts)", keys.Side(filled(255), api.Sum{}), digits(t, "54e06a2b9110be64c438195c5565ba6765bbf3e51532f462e4c43fb863bbc735"))
}

// P14.3: every length up to some hundreds, those round blocks, and many bytes.
func TestValueOfEveryLength(t *testing.T) {
	k := sum(3)
	for n := range 400 {
		is(t, fmt.Sprintf("Value of %d bytes", n), keys.Value(k, row(n)), wantedValue(k, row(n)))
	}
	for _, n := range append([]int{1 << 20, 1<<22 + 7}, lengths...) {
		is(t, fmt.Sprintf("Value of %d bytes", n), keys.Value(k, row(n)), wantedValue(k, row(n)))
	}
}

// P14.3: each byte alone, noughts among them, and bytes that begin with a mark: they are as any others.
func TestValueOfMarks(t *testing.T) {
	seen := map[api.Sum][]byte{}
	hold := func(v []byte) {
		t.Helper()
		got := keys.Value(sum(4), v)
		is(t, "Value", got, wantedValue(sum(4), v))
		if other, was := seen[got]; was {
			t.Errorf("%v and %v have one sum", other, v)
		}
		seen[got] = v
	}
	hold(nil)
	for d := range 256 {
		hold([]byte{byte(d)})
	}
	for n := 2; n < 140; n++ {
		hold(make([]byte, n))
		for _, mark := range []byte{2, 3, 4} {
			hold(bytes.Repeat([]byte{mark}, n))
		}
	}
}

// P14.3: each bit of the key counts, and each of the bytes.
func TestValueOfOthers(t *testing.T) {
	k, v := sum(5), row(32)
	was := keys.Value(k, v)
	for depth := range 256 {
		other := one(t, depth)
		for i := range other {
			other[i] ^= k[i]
		}
		got := keys.Value(other, v)
		is(t, "Value", got, wantedValue(other, v))
		if got == was {
			t.Errorf("the key's bit at %d is not told", depth)
		}
	}
	for i := range v {
		other := slices.Clone(v)
		other[i] ^= 1
		got := keys.Value(k, other)
		is(t, "Value", got, wantedValue(k, other))
		if got == was {
			t.Errorf("the byte at %d is not told", i)
		}
	}
}

// P14.3: two sums, each on its side, of all sorts: the lowest and the highest bytes, the same twice, and what is empty.
func TestSide(t *testing.T) {
	all := []api.Sum{{}, {1}, {31: 1}, filled(255), filled(4), sum(1), sum(2), keys.Empty(256), keys.Empty(0), keys.Value(sum(1), row(9)), keys.Of(0, 0)}
	for _, l := range all {
		for _, r := range all {
			got := keys.Side(l, r)
			is(t, "Side", got, wantedSide(l, r))
			is(t, "Side by shas.Of", got, shas.Of(slices.Concat([]byte{4}, l[:], r[:])))
		}
	}
}

// P14.3: sides that change their places are another one: no two have one sum.
func TestSideTurned(t *testing.T) {
	seen := map[api.Sum][2]int{}
	for i := range 12 {
		for j := range 12 {
			got := keys.Side(sum(i), sum(j))
			if other, was := seen[got]; was {
				t.Errorf("the sides %v and %v have one sum", other, [2]int{i, j})
			}
			seen[got] = [2]int{i, j}
		}
	}
}

// P14.1 to P14.3, R1: any arguments.
func TestAny(t *testing.T) {
	random := rand.New(rand.NewSource(14))
	empty := wantedEmpty()
	for range 400 {
		tenant, resource, depth := random.Uint32(), int(random.Uint64()), random.Intn(400)-60
		is(t, "Of", keys.Of(tenant, resource), wantedKey(tenant, resource))
		is(t, "Empty", keys.Empty(depth), empty[min(max(depth, 0), 256)])
		var k, other api.Sum
		random.Read(k[:])
		random.Read(other[:])
		v := make([]byte, random.Intn(2000))
		random.Read(v)
		is(t, "Value", keys.Value(k, v), wantedValue(k, v))
		is(t, "Side", keys.Side(k, other), wantedSide(k, other))
		bit := 0
		if depth >= 0 && depth < 256 {
			bit = int(text(k)[depth] - '0')
		}
		if got := keys.Bit(k, depth); got != bit {
			t.Errorf("Bit(%x, %d) = %d", k, depth, got)
		}
		keys.Bit(k, int(random.Uint64()))
		keys.Empty(int(random.Uint64()))
	}
}
