package shows_test

import (
	"bytes"
	"crypto/sha256"
	"encoding/binary"
	"encoding/hex"
	"fmt"
	"math/rand"
	"slices"
	"sync"
	"testing"

	"almoner/api"
	"almoner/keys"
	"almoner/maps"
	"almoner/shas"
	"almoner/shows"
)

// content is what a map is wanted to have.
type content map[api.Sum][]byte

// row is so many bytes, unlike their neighbours and those 64 behind them.
func row(n int) []byte {
	b := make([]byte, n)
	for i := range b {
		b[i] = byte(i*7 + i>>6*29 + 3)
	}
	return b
}

// sum is one of all bytes unlike, another one for each number.
func sum(n int) api.Sum { return sha256.Sum256([]byte{byte(n), byte(n >> 8), byte(n >> 16), 's'}) }

// filled is a sum of one byte again and again.
func filled(b byte) api.Sum { return api.Sum(bytes.Repeat([]byte{b}, 32)) }

// masks are the bits of a byte, from the depth on that is a multiple of eight.
var masks = [8]byte{128, 64, 32, 16, 8, 4, 2, 1}

// side is to which side of a depth a key lies, by the document's words.
func side(k api.Sum, depth int) int {
	if k[depth/8]&masks[depth%8] != 0 {
		return 1
	}
	return 0
}

// turned is a key whose bits at these depths are other ones.
func turned(k api.Sum, depths ...int) api.Sum {
	for _, depth := range depths {
		k[depth/8] ^= masks[depth%8]
	}
	return k
}

// steps are some of the depths: the first ones, the last ones, some in the midst, and at the ends of bytes.
func steps() []int {
	return []int{0, 1, 2, 6, 7, 8, 9, 15, 16, 33, 63, 64, 90, 126, 127, 128, 129, 170, 191, 192, 219, 247, 248, 249, 253, 254, 255}
}

// parting is a key that parts from k at a depth, and has others of its bits behind that, for each number others.
func parting(k api.Sum, depth, n int) api.Sum {
	other := sum(n)
	for ahead := range depth + 1 {
		if side(other, ahead) != side(k, ahead) {
			other = turned(other, ahead)
		}
	}
	return turned(other, depth)
}

// hash is what package shas has to tell: by the library, or, over weak sums, by what stands in its place.
func hash(parts ...[]byte) api.Sum {
	var room [128]byte
	b := room[:0]
	for _, part := range parts {
		b = append(b, part...)
	}
	if weak != "" {
		return shas.Of(b)
	}
	return sha256.Sum256(b)
}

// wantedValue is what stands at a key, summed up by the document's words.
func wantedValue(k api.Sum, v []byte) api.Sum {
	if len(v) == 0 {
		return wantedEmpty()[256]
	}
	return hash([]byte{3}, k[:], v)
}

// wantedSide is both sides'.
func wantedSide(l, r api.Sum) api.Sum { return hash([]byte{4}, l[:], r[:]) }

// wantedEmpty is, of each depth from 0 to 256, the sum of what is empty.
var wantedEmpty = sync.OnceValue(func() *[257]api.Sum {
	var all [257]api.Sum
	all[256] = hash([]byte{2})
	for depth := 255; depth >= 0; depth-- {
		all[depth] = wantedSide(all[depth+1], all[depth+1])
	}
	return &all
})

// wantedAt is what pairs that lie to one side at a depth come to, in whatever order they are, by the document's words.
func wantedAt(l []api.Pair, depth int) api.Sum {
	switch {
	case len(l) == 0:
		return wantedEmpty()[depth]
	case depth == 256:
		return wantedValue(l[0].Key, l[0].Value)
	}
	var sides [2][]api.Pair
	for _, p := range l {
		to := side(p.Key, depth)
		sides[to] = append(sides[to], p)
	}
	return wantedSide(wantedAt(sides[0], depth+1), wantedAt(sides[1], depth+1))
}

// root is a map's that has this.
func (c content) root() api.Sum {
	var l []api.Pair
	for k, v := range c {
		l = append(l, api.Pair{Key: k, Value: v})
	}
	return wantedAt(l, 0)
}

// beside is what stands beside a key, at each depth, by the document's words.
func (c content) beside(k api.Sum) [256]api.Sum {
	var parted [257][]api.Pair
	for other, v := range c {
		depth := parts(k, other)
		parted[depth] = append(parted[depth], api.Pair{Key: other, Value: v})
	}
	var all [256]api.Sum
	for depth := range all {
		all[depth] = wantedAt(parted[depth], depth+1)
	}
	return all
}

// parts is the first depth at which two keys have other bits; 256, if they are the same.
func parts(k, other api.Sum) int {
	for depth := range 256 {
		if side(k, depth) != side(other, depth) {
			return depth
		}
	}
	return 256
}

// show is a key's, by the document's words.
func (c content) show(k api.Sum) api.Show {
	var s api.Show
	for depth, beside := range c.beside(k) {
		if beside != wantedEmpty()[depth+1] {
			s.Which = turned(s.Which, depth)
			s.Sides = append(s.Sides, beside)
		}
	}
	return s
}

// joined is what a depth comes to: of what stands on a key's way there, and of what stands beside.
func joined(k api.Sum, depth int, own, other api.Sum) api.Sum {
	both := [2]api.Sum{other, other}
	both[side(k, depth)] = own
	return wantedSide(both[0], both[1])
}

// wantedLead is what a show leads to, by the document's words: at each depth from 256 up to the root. It has as many sides as bits.
func wantedLead(k api.Sum, v []byte, s api.Show) [257]api.Sum {
	var lead [257]api.Sum
	lead[256] = wantedValue(k, v)
	for depth := 255; depth >= 0; depth-- {
		lead[depth] = joined(k, depth, lead[depth+1], tells(s, depth))
	}
	return lead
}

// tells is what a show tells at a depth.
func tells(s api.Show, depth int) api.Sum {
	if side(s.Which, depth) == 1 {
		return s.Sides[place(s, depth)]
	}
	return wantedEmpty()[depth+1]
}

// place is how many bits there are ahead of a depth: so many sides stand ahead of its own.
func place(s api.Show, depth int) int {
	n := 0
	for ahead := range depth {
		n += side(s.Which, ahead)
	}
	return n
}

// wantedCheck is whether a show lets bytes be at a key, by the document's words.
func wantedCheck(root, k api.Sum, v []byte, s api.Show) bool {
	return place(s, 256) == len(s.Sides) && wantedLead(k, v, s)[0] == root
}

// made is a map of this, put in whatever order.
func made(t *testing.T, c content) *maps.Map {
	t.Helper()
	m := maps.New()
	for k, v := range c {
		put(t, m, k, v)
	}
	return m
}

// put makes bytes stand at a key.
func put(t *testing.T, m *maps.Map, k api.Sum, v []byte) {
	t.Helper()
	if e := m.Put(k, v); e != api.OK {
		t.Fatalf("Put of %d bytes = %v", len(v), e)
	}
}

// some is what stands at so many keys: a byte at least, each another one.
func some(n int) content {
	c := content{}
	for i := range n {
		c[sum(i)] = row(i%9 + 3)[i%3:]
	}
	return c
}

// shown is what Of tells.
func shown(t *testing.T, m *maps.Map, k api.Sum) api.Show {
	t.Helper()
	s, e := shows.Of(m, k)
	if e != api.OK {
		t.Fatalf("Of(%x) = %v", k, e)
	}
	return s
}

// isShow fails the test if the show is not the one that is wanted.
func isShow(t *testing.T, what string, got, want api.Show) {
	t.Helper()
	if got.Which != want.Which {
		t.Errorf("%s: Which = %x, not %x", what, got.Which, want.Which)
	}
	if !slices.Equal(got.Sides, want.Sides) {
		t.Errorf("%s: Sides = %x, not %x", what, got.Sides, want.Sides)
	}
}

// shownAs fails the test if Of tells another show of a key than the document's words do, or if it does not let be what stands there.
func shownAs(t *testing.T, m *maps.Map, c content, k api.Sum) {
	t.Helper()
	s := shown(t, m, k)
	isShow(t, fmt.Sprintf("of %d keys, Of(%x)", len(c), k), s, c.show(k))
	taken(t, fmt.Sprintf("of %d keys, the show of %x", len(c), k), c.root(), k, c[k], s)
}

// taken fails the test if the show does not let the bytes be there.
func taken(t *testing.T, what string, root, k api.Sum, v []byte, s api.Show) {
	t.Helper()
	if !wantedCheck(root, k, v, s) {
		t.Errorf("%s: not let be, by the words", what)
	}
	if !shows.Check(root, k, v, s) {
		t.Errorf("%s: not let be", what)
	}
}

// refused fails the test if the show lets the bytes be there. Over weak sums it may, by chance: there it must be as the document's words tell.
func refused(t *testing.T, what string, root, k api.Sum, v []byte, s api.Show) {
	t.Helper()
	if got, want := shows.Check(root, k, v, s), weak != "" && wantedCheck(root, k, v, s); got != want {
		t.Errorf("%s: let be is %v", what, got)
	}
}

// asked is a key of which a map tells a show.
type asked struct {
	name string
	c    content
	k    api.Sum
}

// cases are keys that are there and keys that are not, with no side, one, and many.
func cases() []asked {
	var all []asked
	a, b := []byte("a"), []byte("b")
	for _, base := range []api.Sum{{}, filled(255), sum(7)} {
		name := fmt.Sprintf("%x", base[:2])
		deep := content{base: a}
		for depth := 0; depth < 256; depth += 15 {
			deep[parting(base, depth, depth)] = row(depth + 1)
		}
		bare := content{}
		for k, v := range deep {
			if k != base {
				bare[k] = v
			}
		}
		all = append(all,
			asked{name + " of none", content{}, base},
			asked{name + " alone", content{base: a}, base},
			asked{name + ", one at the first depth", content{base: a, parting(base, 0, 1): b}, base},
			asked{name + ", one at the last depth", content{base: a, turned(base, 255): b}, base},
			asked{name + " not there, one at the last depth", content{turned(base, 255): b}, base},
			asked{name + " not there, one in the midst", content{parting(base, 130, 1): b}, base},
			asked{name + ", at many depths", deep, base},
			asked{name + " not there, at many depths", bare, base},
			asked{name + " not there, of some", some(6), base},
		)
	}
	return append(all, asked{"one of some", some(20), sum(3)}, asked{"one of many", some(100), sum(70)})
}

// eachCase runs a test with each case, its root and its show, several at a time.
func eachCase(t *testing.T, test func(t *testing.T, a asked, root api.Sum, s api.Show)) {
	t.Run("each", func(t *testing.T) { // which ends when all within have
		for _, a := range cases() {
			t.Run(a.name, func(t *testing.T) {
				t.Parallel()
				test(t, a, a.c.root(), shown(t, made(t, a.c), a.k))
			})
		}
	})
}

// P16.1, P16.2: what the document tells.
func TestTold(t *testing.T) {
	m := maps.New()
	for _, k := range []api.Sum{{}, filled(255), {128}, {31: 1}, sum(1), keys.Of(3, 2)} {
		s := shown(t, m, k)
		isShow(t, "of an empty map", s, api.Show{})
		taken(t, "none", m.Root(), k, nil, s)
		refused(t, "a", m.Root(), k, []byte("a"), s)
	}
}

// P16.1: keys of an empty map, new, copied, or emptied.
func TestOfEmpty(t *testing.T) {
	emptied := made(t, some(3))
	for i := range 3 {
		put(t, emptied, sum(i), nil)
	}
	copied, _ := emptied.Copy()
	for _, m := range []*maps.Map{maps.New(), emptied, copied} {
		for _, k := range []api.Sum{{}, filled(255), sum(0), sum(9)} {
			shownAs(t, m, content{}, k)
		}
	}
}

// up is what a sum that stands on a key's way, at the depth low, comes to at the depth high, if nothing stands beside that way.
func up(k, s api.Sum, low, high int) api.Sum {
	for depth := low - 1; depth >= high; depth-- {
		s = joined(k, depth, s, wantedEmpty()[depth+1])
	}
	return s
}

// P16.1: a map of one key: its own show tells nothing, and that of a key that parts from it at whichever depth tells it there.
func TestOfOne(t *testing.T) {
	t.Parallel()
	for _, k := range []api.Sum{{}, filled(255), sum(1)} {
		c := content{k: row(40)}
		m := made(t, c)
		shownAs(t, m, c, k)
		isShow(t, "its own", shown(t, m, k), api.Show{})
		for depth := range 256 {
			other := turned(k, depth)
			if depth%2 == 0 {
				other = parting(k, depth, depth)
			}
			shownAs(t, m, c, other)
			if weak == "" {
				want := api.Show{Which: turned(api.Sum{}, depth), Sides: []api.Sum{up(k, wantedValue(k, row(40)), 256, depth+1)}}
				isShow(t, fmt.Sprintf("parting at %d", depth), shown(t, m, other), want)
			}
		}
	}
}

// P16.1: a map of two keys that part at whichever depth: each one's show tells the other one there; a third key's tells both, at one depth or at two.
func TestOfTwo(t *testing.T) {
	t.Parallel()
	for depth := range 256 {
		k := []api.Sum{{}, filled(255), sum(depth)}[depth%3]
		other := parting(k, depth, depth)
		c := content{k: []byte("a"), other: []byte("b")}
		m := made(t, c)
		shownAs(t, m, c, k)
		shownAs(t, m, c, other)
		shownAs(t, m, c, turned(other, (depth*7+5)%256))
	}
}

// P16.1: several keys that part from the asked one at one depth: one sum tells them all.
func TestOfSeveralAtOneDepth(t *testing.T) {
	t.Parallel()
	for _, depth := range steps() {
		k := []api.Sum{{}, filled(255), sum(depth)}[depth%3]
		c := content{}
		for n := range 4 {
			c[parting(k, depth, n)] = row(n + 1)
		}
		shownAs(t, made(t, c), c, k)
		if s := shown(t, made(t, c), k); weak == "" && (s.Which != turned(api.Sum{}, depth) || len(s.Sides) != 1) {
			t.Errorf("parting at %d: Which = %x, %d sides", depth, s.Which, len(s.Sides))
		}
		c[k] = []byte("a")
		shownAs(t, made(t, c), c, k)
	}
}

// P16.1: something stands beside the key at each depth: 256 sides; at all but one: 255.
func TestOfEveryDepth(t *testing.T) {
	t.Parallel()
	for _, k := range []api.Sum{{}, filled(255), sum(1)} {
		c := content{}
		for depth := range 256 {
			c[turned(k, depth)] = row(depth + 1)
		}
		shownAs(t, made(t, c), c, k)
		c[k] = []byte("a")
		m := made(t, c)
		shownAs(t, m, c, k)
		if s := shown(t, m, k); weak == "" && (s.Which != filled(255) || len(s.Sides) != 256) {
			t.Errorf("Which = %x, %d sides", s.Which, len(s.Sides))
		}
		for _, depth := range []int{0, 100, 255} {
			put(t, m, turned(k, depth), nil)
			s := shown(t, m, k)
			taken(t, "all but one", m.Root(), k, []byte("a"), s)
			if weak == "" && (s.Which != turned(filled(255), depth) || len(s.Sides) != 255) {
				t.Errorf("without %d: Which = %x, %d sides", depth, s.Which, len(s.Sides))
			}
			put(t, m, turned(k, depth), row(depth+1))
		}
	}
}

// P16.1: each number of keys up to some, and many: those that are there and those that are not.
func TestOfEveryNumber(t *testing.T) {
	t.Parallel()
	for n := range 9 {
		c := some(n)
		m := made(t, c)
		for i := range n + 2 {
			shownAs(t, m, c, sum(i))
		}
		shownAs(t, m, c, api.Sum{})
		shownAs(t, m, c, filled(255))
	}
	c := some(300)
	m := made(t, c)
	for _, k := range []api.Sum{sum(0), sum(150), sum(299), sum(300), {}, filled(255), turned(sum(4), 255)} {
		shownAs(t, m, c, k)
	}
}

// P16.1: keys close to one another, so that both sides of many depths have some.
func TestOfClose(t *testing.T) {
	t.Parallel()
	for _, base := range []api.Sum{{}, filled(255), sum(3)} {
		for _, depths := range [][]int{{0, 1, 2}, {253, 254, 255}, {127, 128, 129}, {0, 128, 255}, {7, 8, 16}} {
			c := content{}
			for n := range 1 << len(depths) {
				k := base
				for i, depth := range depths {
					if n>>i&1 == 1 {
						k = turned(k, depth)
					}
				}
				c[k] = row(n + 1)
			}
			m := made(t, c)
			for k := range c {
				shownAs(t, m, c, k)
			}
			shownAs(t, m, c, turned(base, 60))
			put(t, m, base, nil)
			delete(c, base)
			shownAs(t, m, c, base)
		}
	}
}

// P16.1, P16.2: bytes of each length stand at the key, and beside it.
func TestOfEveryLength(t *testing.T) {
	t.Parallel()
	for n := 1; n <= api.MaxRecord; n += 5 {
		k, other := sum(n), parting(sum(n), n%256, n)
		c := content{k: row(n), other: row(api.MaxRecord + 1 - n)}
		m := made(t, c)
		shownAs(t, m, c, k)
		shownAs(t, m, c, other)
		shownAs(t, m, c, parting(k, 255-n%256, 3*n))
	}
}

// digits is a sum of its digits of 16.
func digits(t *testing.T, text string) api.Sum {
	t.Helper()
	b, err := hex.DecodeString(text)
	if err != nil || len(b) > len(api.Sum{}) {
		t.Fatalf("%q is no sum", text)
	}
	var s api.Sum
	copy(s[:], b)
	return s
}

// P16.1, P16.2: known shows, worked out by another program. (Of Which the bytes are told up to the last one that is not 0.)
func TestKnown(t *testing.T) {
	if weak != "" {
		t.Skip("these are sums of SHA-256")
	}
	every := make([]byte, 256)
	for i := range every {
		every[i] = byte(i)
	}
	all := content{}
	for tenant := range 4 {
		for resource := range api.Resources {
			all[keys.Of(uint32(tenant), resource)] = binary.BigEndian.AppendUint64(nil, uint64(tenant*10+resource+1))
		}
	}
	a, b := []byte("a"), []byte("b")
	last, mid := content{{}: a, {31: 1}: b}, content{{}: a, {16: 128}: b}
	lastWhich := hex.EncodeToString(append(make([]byte, 31), 1))
	midWhich := hex.EncodeToString(append(make([]byte, 16), 128))
	const (
		rootOfNone = "e05efe8b56a122601ecf9bcf355d09dd865dc056a0e4a58e4785b3e66cdf32b9"
		rootOfA    = "8a11a57102f824ec90983c0651601804864e866d27acb7ed848861d0797bee34"
		rootOfAbc  = "66ae37d32ae2d82bc235c3caf39f7237dc1e3f5182682cc3c6fa641438c4e0b2"
		rootOfLast = "8f1bfa25f52a5ffb28f670e1cb8380319af618202b09e4268e4733f4244af30d"
		rootOfMid  = "a9dced304f01ff3c223bb08fee68a177d072418b769984f9b791c86e8373bc0a"
		rootOfOne  = "2a4d03d5075d7de8326d3df349acdd983067d42e21e35ac20231d0e245b15e3f"
		rootOfAll  = "f500a3fc95cb99e576cd94c634d790081674df23c1678d7f7855435398a4a00d"
	)
	for _, known := range []struct {
		c     content
		k     api.Sum
		root  string
		which string
		sides []string
	}{
		{content{}, api.Sum{}, rootOfNone, "", nil},
		{content{{}: a}, api.Sum{}, rootOfA, "", nil},
		{content{{}: a}, filled(255), rootOfA, "80", []string{"e3c7b6954c7bcf7655bcd0f4c83f2937e72f6cd55daef113c2ca0786bcbb5aaf"}},
		{content{filled(255): []byte("abc")}, api.Sum{}, rootOfAbc, "80", []string{"4ebc4a99a471947b65acb3968eff433c32a2435c9bf4e8b8bffc6b71dc818be4"}},
		{last, api.Sum{}, rootOfLast, lastWhich, []string{"9980e8e106b668637dfc43f07a343305a79f6fa0cd1b139b87f29b44f3fa39af"}},
		{last, api.Sum{31: 1}, rootOfLast, lastWhich, []string{"8abbac9981a48d33600c08753ae7382be6cb961ceac71053bc966037be16a531"}},
		{mid, api.Sum{}, rootOfMid, midWhich, []string{"670adc2f79bff4d03a500fc4efb941443fb354eda6a9a1f63f882fd06fa46dd0"}},
		{mid, filled(255), rootOfMid, "80", []string{"dd67e8eeacd3425b9cf42a13b50e392201928a5ea94b031f2d57d6cf250a095e"}},
		{content{keys.Of(1, 0): every}, keys.Of(1, 1), rootOfOne, "20", []string{"90a7ae8fceda9e4092a0faaf61c982feeaefb9431bd23e75b49c9232bf4fbf75"}},
		{all, keys.Of(2, 1), rootOfAll, "e0", []string{
			"67e9af834f166911306caefaf905d79625014dc3e3a71322a93bf3811e86fe48",
			"f7fb52f2ecd63a647703cafcbc6b69d9ad605fb477f89539f970fb7e0e8f4926",
			"945e0a7e25f890274d2db41bf015267afa2f0459b9131088ef736d4dcb2bd694",
		}},
		{all, keys.Of(4, 0), rootOfAll, "f4", []string{
			"67e9af834f166911306caefaf905d79625014dc3e3a71322a93bf3811e86fe48",
			"c60ad8e2988d1db702940a1ad785681af0566f6f211e42d598fa8d6f577dbe2d",
			"1e146324439b3a2c4c8929398978b409c57d2060aca6a382e6f860e08c2876ed",
			"570a5c50895734f09bd4a3f8ad8eb55c9f5df00f68428e50c909da323900e9c2",
			"7e0227306387a27c16432ffaa72fc737152fdf0951e4666a7420de40e39dfa05",
		}},
	} {
		want := api.Show{Which: digits(t, known.which)}
		for _, s := range known.sides {
			want.Sides = append(want.Sides, digits(t, s))
		}
		what := fmt.Sprintf("of %d keys, %x", len(known.c), known.k)
		isShow(t, what, shown(t, made(t, known.c), known.k), want)
		isShow(t, what+", by the words", known.c.show(known.k), want)
		taken(t, what, digits(t, known.root), known.k, known.c[known.k], want)
		refused(t, what+", other bytes", digits(t, known.root), known.k, append(known.c[known.k], 'x'), want)
	}
}

// P16.1, P16.2: any keys and bytes; keys of few bits, so that they part at any depth.
func TestAny(t *testing.T) {
	t.Parallel()
	random := rand.New(rand.NewSource(16))
	for range 25 {
		m, c := maps.New(), content{}
		base := []api.Sum{{}, filled(255), sum(random.Intn(9))}[random.Intn(3)]
		key := func() api.Sum {
			k := base
			for range random.Intn(4) {
				k = turned(k, random.Intn(256))
			}
			return k
		}
		for range random.Intn(20) {
			k, v := key(), row(random.Intn(256)+1)
			put(t, m, k, v)
			c[k] = v
			if random.Intn(5) == 0 {
				put(t, m, k, nil)
				delete(c, k)
			}
			if random.Intn(6) == 0 {
				shownAs(t, m, c, key())
			}
		}
		for k := range c {
			shownAs(t, m, c, k)
		}
		shownAs(t, m, c, key())
	}
}
