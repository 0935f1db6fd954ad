package maps_test

import (
	"bytes"
	"crypto/sha256"
	"encoding/binary"
	"encoding/hex"
	"fmt"
	"math/rand"
	"slices"
	"strings"
	"sync"
	"testing"

	"almoner/api"
	"almoner/keys"
	"almoner/maps"
)

// content is what a map is wanted to have.
type content map[api.Sum][]byte

// row is so many bytes, unlike their neighbours and those 64 behind them.
func row(n int) []byte {
	b := make([]byte, n)
	for i := range b {
		b[i] = byte(i*7 + i>>6*29 + 3)
	}
	return b
}

// sum is one of all bytes unlike, another one for each number.
func sum(n int) api.Sum { return sha256.Sum256([]byte{byte(n), byte(n >> 8), byte(n >> 16), 's'}) }

// filled is a sum of one byte again and again.
func filled(b byte) api.Sum { return api.Sum(bytes.Repeat([]byte{b}, 32)) }

// masks are the bits of a byte, from the depth on that is a multiple of eight.
var masks = [8]byte{128, 64, 32, 16, 8, 4, 2, 1}

// side is to which side of a depth a key lies, by the document's words.
func side(k api.Sum, depth int) int {
	if k[depth/8]&masks[depth%8] != 0 {
		return 1
	}
	return 0
}

// turned is a key whose bit at a depth is another one.
func turned(k api.Sum, depth int) api.Sum {
	k[depth/8] ^= masks[depth%8]
	return k
}

// wantedValue is what stands at a key, summed up by the document's words.
func wantedValue(k api.Sum, v []byte) api.Sum {
	return sha256.Sum256(slices.Concat([]byte{3}, k[:], v))
}

// wantedSide is both sides'.
func wantedSide(l, r api.Sum) api.Sum {
	return sha256.Sum256(slices.Concat([]byte{4}, l[:], r[:]))
}

// wantedEmpty is, of each depth from 0 to 256, the sum of what is empty.
var wantedEmpty = sync.OnceValue(func() [257]api.Sum {
	var all [257]api.Sum
	all[256] = sha256.Sum256([]byte{2})
	for depth := 255; depth >= 0; depth-- {
		all[depth] = wantedSide(all[depth+1], all[depth+1])
	}
	return all
})

// wantedAt is what pairs that lie to one side at a depth come to, in whatever order they are, by the document's words.
func wantedAt(l []api.Pair, depth int) api.Sum {
	switch {
	case len(l) == 0:
		return wantedEmpty()[depth]
	case depth == 256:
		return wantedValue(l[0].Key, l[0].Value)
	}
	var sides [2][]api.Pair
	for _, p := range l {
		to := side(p.Key, depth)
		sides[to] = append(sides[to], p)
	}
	return wantedSide(wantedAt(sides[0], depth+1), wantedAt(sides[1], depth+1))
}

// root is a map's that has this.
func (c content) root() api.Sum {
	var l []api.Pair
	for k, v := range c {
		l = append(l, api.Pair{Key: k, Value: v})
	}
	return wantedAt(l, 0)
}

// pairs are a map's that has this: as the keys' digits of 16 rise.
func (c content) pairs() []api.Pair {
	var texts []string
	for k := range c {
		texts = append(texts, hex.EncodeToString(k[:]))
	}
	slices.Sort(texts)
	var l []api.Pair
	for _, text := range texts {
		b, _ := hex.DecodeString(text)
		l = append(l, api.Pair{Key: api.Sum(b), Value: c[api.Sum(b)]})
	}
	return l
}

// put makes bytes stand at a key.
func put(t *testing.T, m *maps.Map, k api.Sum, v []byte) {
	t.Helper()
	if e := m.Put(k, v); e != api.OK {
		t.Fatalf("Put of %d bytes = %v", len(v), e)
	}
}

// made is a map of this, put in whatever order.
func made(t *testing.T, c content) *maps.Map {
	t.Helper()
	m := maps.New()
	for k, v := range c {
		put(t, m, k, v)
	}
	return m
}

// copied is a map's copy.
func copied(t *testing.T, m *maps.Map) *maps.Map {
	t.Helper()
	other, e := m.Copy()
	if e != api.OK || other == nil {
		t.Fatalf("Copy = %v, %v", other, e)
	}
	return other
}

// some is what stands at so many keys: a byte at least, each another one.
func some(n int) content {
	c := content{}
	for i := range n {
		c[sum(i)] = row(i%9 + 3)[i%3:]
	}
	return c
}

// has fails the test if something else stands at the key.
func has(t *testing.T, m *maps.Map, k api.Sum, want []byte) {
	t.Helper()
	if got, e := m.Get(k); e != api.OK || !bytes.Equal(got, want) {
		t.Errorf("Get(%x) = %v, %v, not %v", k, got, e, want)
	}
}

// samePair is whether two pairs are the same.
func samePair(a, b api.Pair) bool { return a.Key == b.Key && bytes.Equal(a.Value, b.Value) }

// holds fails the test if the map has something else, or tells a root that is another one.
func holds(t *testing.T, m *maps.Map, c content) {
	t.Helper()
	if got, want := m.Pairs(), c.pairs(); !slices.EqualFunc(got, want, samePair) {
		t.Errorf("Pairs = %v, not %v", got, want)
	}
	for k, v := range c {
		has(t, m, k, v)
	}
	for _, k := range []api.Sum{{}, {1}, {31: 1}, filled(255), sum(-1), sum(-2)} {
		has(t, m, k, c[k])
	}
	is(t, "Root", m.Root(), c.root())
}

// is fails the test if the sum is not the one that is wanted.
func is(t *testing.T, what string, got, want api.Sum) {
	t.Helper()
	if got != want {
		t.Errorf("%s = %x, not %x", what, got, want)
	}
}

// digits is a sum of its digits of 16.
func digits(t *testing.T, text string) api.Sum {
	t.Helper()
	b, err := hex.DecodeString(text)
	if err != nil || len(b) != len(api.Sum{}) {
		t.Fatalf("%q is no sum", text)
	}
	return api.Sum(b)
}

// P15.1: an empty map, each call another one.
func TestNew(t *testing.T) {
	m := maps.New()
	if m == nil {
		t.Fatal("New = nil")
	}
	holds(t, m, content{})
	put(t, m, sum(1), []byte("a"))
	holds(t, maps.New(), content{})
	holds(t, m, content{sum(1): []byte("a")})
}

// P15.1: a copy has the same, of each number of keys, and so has a copy of it.
func TestCopy(t *testing.T) {
	for n := range 20 {
		m := made(t, some(n))
		other := copied(t, m)
		if other == m {
			t.Fatalf("of %d keys: the copy is the map itself", n)
		}
		holds(t, other, some(n))
		holds(t, copied(t, other), some(n))
		holds(t, m, some(n))
	}
}

// P15.1: of bytes of each length, and behind what was taken away, a copy has what stands there.
func TestCopyOfAll(t *testing.T) {
	c, m := content{}, maps.New()
	for n := range api.MaxRecord + 1 {
		put(t, m, sum(n), row(n))
		if n > 0 {
			c[sum(n)] = row(n)
		}
	}
	for n := 0; n <= api.MaxRecord; n += 3 {
		put(t, m, sum(n), nil)
		delete(c, sum(n))
	}
	holds(t, copied(t, m), c)
}

// P15.2, P15.3: what the document tells.
func TestTold(t *testing.T) {
	k, other := sum(1), sum(2)
	is(t, "New: Root", maps.New().Root(), keys.Empty(0))
	m := maps.New()
	put(t, m, k, []byte("a"))
	has(t, m, k, []byte("a"))
	has(t, m, other, nil)
	put(t, m, k, nil)
	if l := m.Pairs(); len(l) != 0 {
		t.Errorf("Pairs = %v", l)
	}
	is(t, "Root", m.Root(), keys.Empty(0))
	if e := m.Put(k, make([]byte, 257)); e != api.ErrLimit {
		t.Errorf("Put of 257 bytes = %v", e)
	}
}

// P15.2: an empty map has nothing at any key, and what is taken away there changes nothing.
func TestGetOfNone(t *testing.T) {
	m := maps.New()
	for _, k := range []api.Sum{{}, filled(255), sum(1), keys.Of(0, 0), keys.Empty(0)} {
		has(t, m, k, nil)
		put(t, m, k, nil)
		put(t, m, k, []byte{})
		has(t, m, k, nil)
		holds(t, m, content{})
	}
}

// P15.2: one key, of noughts, of 255s, and others: the bytes stand there, and nothing stands at keys that are unlike in one bit.
func TestPutAtOne(t *testing.T) {
	for _, k := range []api.Sum{{}, filled(255), filled(0x5a), {128}, {31: 1}, sum(1), keys.Of(3, 1)} {
		m := maps.New()
		put(t, m, k, []byte("a"))
		holds(t, m, content{k: []byte("a")})
		for depth := range 256 {
			has(t, m, turned(k, depth), nil)
		}
	}
}

// P15.2: bytes of each length from 1 to MaxRecord stand there.
func TestPutOfEveryLength(t *testing.T) {
	m := maps.New()
	for n := 1; n <= api.MaxRecord; n++ {
		put(t, m, sum(1), row(n))
		has(t, m, sum(1), row(n))
		if n < 3 || n > 253 || n%64 < 2 {
			holds(t, m, content{sum(1): row(n)})
		}
	}
}

// P15.2: noughts are bytes as any others.
func TestPutNoughts(t *testing.T) {
	for _, n := range []int{1, 2, 8, 31, 32, 33, 255, 256} {
		m := maps.New()
		put(t, m, sum(1), make([]byte, n))
		holds(t, m, content{sum(1): make([]byte, n)})
	}
}

// P15.2: of no bytes, nil, empty, or with spare room, nothing stands there: at a key that has some, and at one that has none.
func TestPutNone(t *testing.T) {
	for _, none := range [][]byte{nil, {}, row(70)[:0], row(70)[70:]} {
		for n := range 12 {
			c := some(n)
			m := made(t, c)
			put(t, m, sum(100), none)
			holds(t, m, c)
			for i := range n {
				put(t, m, sum(i), none)
				delete(c, sum(i))
				holds(t, m, c)
				put(t, m, sum(i), none)
				holds(t, m, c)
			}
		}
	}
}

// P15.2: above MaxRecord: ErrLimit, and what stood there, or nothing, stands there.
func TestPutRefused(t *testing.T) {
	for _, many := range []int{api.MaxRecord + 1, api.MaxRecord + 2, 512, api.MaxBytes, 1 << 17} {
		for n := range 5 {
			m := made(t, some(n))
			for i := range n + 2 {
				for range 2 {
					if e := m.Put(sum(i), make([]byte, many)); e != api.ErrLimit {
						t.Errorf("Put of %d bytes = %v", many, e)
					}
				}
			}
			holds(t, m, some(n))
		}
	}
	m := maps.New()
	put(t, m, sum(1), row(api.MaxRecord))
	if e := m.Put(sum(1), row(api.MaxRecord+1)); e != api.ErrLimit {
		t.Errorf("Put of one more = %v", e)
	}
	holds(t, m, content{sum(1): row(api.MaxRecord)})
}

// P15.2: a key that is put again has the bytes that were put last: others, more, fewer, the same, and such as are put behind none.
func TestPutAgain(t *testing.T) {
	for n := range 5 {
		c := some(n)
		m := made(t, c)
		for _, v := range []string{"a", "b", "bb", "b", "b", "", "b", "", "", "c", strings.Repeat("d", 256), "e", strings.Repeat("d", 256), ""} {
			put(t, m, sum(100), []byte(v))
			has(t, m, sum(100), []byte(v))
			c[sum(100)] = []byte(v)
			if v == "" {
				delete(c, sum(100))
			}
			holds(t, m, c)
		}
	}
}

// P15.2: what is put at one key changes nothing at another one, though both be unlike in one bit only.
func TestPutBeside(t *testing.T) {
	for depth := range 256 {
		k, other := sum(depth), turned(sum(depth), depth)
		m := maps.New()
		put(t, m, k, []byte("a"))
		put(t, m, other, []byte("b"))
		has(t, m, k, []byte("a"))
		has(t, m, other, []byte("b"))
		put(t, m, k, nil)
		has(t, m, k, nil)
		has(t, m, other, []byte("b"))
	}
}

// P15.3: of none it is keys.Empty of depth 0.
func TestRootOfNone(t *testing.T) {
	is(t, "Root", maps.New().Root(), wantedEmpty()[0])
	is(t, "Root", maps.New().Root(), keys.Empty(0))
}

// P15.3: known roots, worked out by another program.
func TestRootKnown(t *testing.T) {
	every := make([]byte, 256)
	for i := range every {
		every[i] = byte(i)
	}
	all := content{}
	for tenant := range 4 {
		for resource := range api.Resources {
			all[keys.Of(uint32(tenant), resource)] = binary.BigEndian.AppendUint64(nil, uint64(tenant*10+resource+1))
		}
	}
	a, b := []byte("a"), []byte("b")
	for _, k := range []struct {
		c    content
		told string
	}{
		{content{}, "e05efe8b56a122601ecf9bcf355d09dd865dc056a0e4a58e4785b3e66cdf32b9"},
		{content{{}: a}, "8a11a57102f824ec90983c0651601804864e866d27acb7ed848861d0797bee34"},
		{content{filled(255): []byte("abc")}, "66ae37d32ae2d82bc235c3caf39f7237dc1e3f5182682cc3c6fa641438c4e0b2"},
		{content{{}: a, filled(255): b}, "9a4ec6c6f581ffcf0514459cb49437295e6bd00a7ef829ec99840c2228095704"},
		{content{{}: a, {31: 1}: b}, "8f1bfa25f52a5ffb28f670e1cb8380319af618202b09e4268e4733f4244af30d"},
		{content{{}: a, {16: 128}: b}, "a9dced304f01ff3c223bb08fee68a177d072418b769984f9b791c86e8373bc0a"},
		{content{keys.Of(1, 0): every}, "2a4d03d5075d7de8326d3df349acdd983067d42e21e35ac20231d0e245b15e3f"},
		{all, "f500a3fc95cb99e576cd94c634d790081674df23c1678d7f7855435398a4a00d"},
	} {
		is(t, fmt.Sprintf("Root of %d keys", len(k.c)), made(t, k.c).Root(), digits(t, k.told))
		is(t, fmt.Sprintf("what is wanted of %d keys", len(k.c)), k.c.root(), digits(t, k.told))
	}
}

// up is what a sum that stands on a key's way, at the depth low, comes to at the depth high, if nothing stands beside that way.
func up(k, s api.Sum, low, high int) api.Sum {
	for depth := low - 1; depth >= high; depth-- {
		if keys.Bit(k, depth) == 0 {
			s = keys.Side(s, keys.Empty(depth+1))
		} else {
			s = keys.Side(keys.Empty(depth+1), s)
		}
	}
	return s
}

// P15.3: of one key: up from depth 256, each time with what is empty on the side where it does not lie.
func TestRootOfOne(t *testing.T) {
	for _, k := range []api.Sum{{}, filled(255), filled(0xaa), {128}, {31: 1}, sum(1), sum(2), keys.Of(9, 2)} {
		root := made(t, content{k: []byte("a")}).Root()
		is(t, fmt.Sprintf("Root of %x", k), root, up(k, keys.Value(k, []byte("a")), 256, 0))
		is(t, fmt.Sprintf("Root of %x", k), root, content{k: []byte("a")}.root())
	}
}

// P15.3: two keys that part at each depth, the first one, the last one, and those in the midst, and have others behind that: both come to one sum there, that of the bit 0 ahead.
func TestRootOfTwo(t *testing.T) {
	for depth := range 256 {
		for _, k := range []api.Sum{{}, filled(255), sum(depth)} {
			other := turned(k, depth)
			for behind := depth + 1; behind < 256; behind += 3 {
				other = turned(other, behind)
			}
			c := content{k: []byte("a"), other: []byte("b")}
			root := made(t, c).Root()
			is(t, fmt.Sprintf("Root of %x and %x", k, other), root, c.root())
			if depth%17 > 0 {
				continue
			}
			var sides [2]api.Sum
			for one, v := range c {
				sides[side(one, depth)] = up(one, keys.Value(one, v), 256, depth+1)
			}
			is(t, fmt.Sprintf("Root of %x and %x, by Side", k, other), root, up(k, keys.Side(sides[0], sides[1]), depth, 0))
		}
	}
}

// P15.3: both of two keys count, and which of them has which bytes.
func TestRootOfOthers(t *testing.T) {
	seen := map[api.Sum]string{}
	k, other := sum(1), sum(2)
	for name, c := range map[string]content{
		"none": {}, "a": {k: []byte("a")}, "b": {k: []byte("b")}, "a at the other": {other: []byte("a")},
		"both a": {k: []byte("a"), other: []byte("a")}, "a, b": {k: []byte("a"), other: []byte("b")}, "b, a": {k: []byte("b"), other: []byte("a")},
		"a with a nought": {k: []byte("a\x00")}, "a nought": {k: []byte{0}},
	} {
		root := made(t, c).Root()
		is(t, "Root of "+name, root, c.root())
		if was, is := seen[root]; is {
			t.Errorf("%s and %s have one root", name, was)
		}
		seen[root] = name
	}
}

// P15.3: each number of keys up to some, and many.
func TestEveryNumber(t *testing.T) {
	m := maps.New()
	for n := range 60 {
		holds(t, m, some(n))
		put(t, m, sum(n), some(n + 1)[sum(n)])
	}
	holds(t, made(t, some(1500)), some(1500))
}

// P15.3: keys that lie close to one another: all that part in some bits at the ends and in the midst, so that both sides of many depths have some.
func TestClose(t *testing.T) {
	for _, base := range []api.Sum{{}, filled(255), sum(3)} {
		for _, depths := range [][]int{{0, 1, 2, 3, 4}, {251, 252, 253, 254, 255}, {126, 127, 128, 129}, {0, 127, 128, 255}, {7, 8, 15, 16}} {
			c := content{}
			for n := range 1 << len(depths) {
				k := base
				for i, depth := range depths {
					if n>>i&1 == 1 {
						k = turned(k, depth)
					}
				}
				c[k] = row(n + 1)
			}
			holds(t, made(t, c), c)
		}
	}
}

// P15.3: pairs rise by the first byte in which they part: the first one, the last one, each in the midst; bytes above 127 are above those below, and what is behind that byte does not count.
func TestPairsRise(t *testing.T) {
	bytesOf := []byte{0, 1, 2, 126, 127, 128, 129, 200, 254, 255}
	for at := range 32 {
		c := content{}
		for i, d := range bytesOf {
			k := filled(77)
			k[at] = d
			for behind := at + 1; behind < 32; behind++ {
				k[behind] = bytesOf[(i*7+behind)%len(bytesOf)]
			}
			c[k] = []byte{d, 1}
		}
		l := made(t, c).Pairs()
		if len(l) != len(bytesOf) {
			t.Fatalf("%d pairs", len(l))
		}
		for i, d := range bytesOf {
			if l[i].Key[at] != d || !bytes.Equal(l[i].Value, []byte{d, 1}) {
				t.Errorf("parting at the byte %d: the pair %d is %v", at, i, l[i])
			}
		}
		holds(t, made(t, c), c)
	}
}

// P15.3: the first byte in which two keys part tells, whatever those behind are.
func TestPairsOfTwo(t *testing.T) {
	for at := range 32 {
		for _, two := range [][2]byte{{0, 1}, {0, 255}, {127, 128}, {128, 255}, {254, 255}, {1, 128}} {
			low, high := filled(9), filled(9)
			low[at], high[at] = two[0], two[1]
			for behind := at + 1; behind < 32; behind++ {
				low[behind], high[behind] = 255, 0
			}
			for _, first := range []api.Sum{low, high} {
				m := maps.New()
				put(t, m, first, []byte("x"))
				put(t, m, low, []byte("low"))
				put(t, m, high, []byte("high"))
				l := m.Pairs()
				if want := []api.Pair{{Key: low, Value: []byte("low")}, {Key: high, Value: []byte("high")}}; !slices.EqualFunc(l, want, samePair) {
					t.Errorf("Pairs = %v, not %v", l, want)
				}
			}
		}
	}
}

// P15.3: what is asked changes nothing: asked twice it is the same.
func TestAskedTwice(t *testing.T) {
	for n := range 20 {
		m := made(t, some(n))
		for range 3 {
			m.Root()
			m.Pairs()
			m.Get(sum(n))
			m.Copy()
			holds(t, m, some(n))
		}
	}
}

// P15.1 to P15.3: any keys and bytes, in any order; keys of few bits, so that they are met again.
func TestAny(t *testing.T) {
	random := rand.New(rand.NewSource(15))
	for range 40 {
		m, c := maps.New(), content{}
		for range random.Intn(120) {
			k := sum(random.Intn(15))
			if random.Intn(2) == 0 {
				k = turned(turned(filled(byte(random.Intn(2)*255)), random.Intn(256)), random.Intn(256))
			}
			v := row(300)[:random.Intn(300)]
			random.Shuffle(len(v), func(i, j int) { v[i], v[j] = v[j], v[i] })
			if random.Intn(3) == 0 {
				v = nil
			}
			want := api.OK
			switch {
			case len(v) > 256:
				want = api.ErrLimit
			case len(v) == 0:
				delete(c, k)
			default:
				c[k] = v
			}
			if e := m.Put(k, v); e != want {
				t.Fatalf("Put of %d bytes = %v", len(v), e)
			}
			has(t, m, k, c[k])
			if random.Intn(30) == 0 {
				m = copied(t, m)
			}
		}
		holds(t, m, c)
	}
}
