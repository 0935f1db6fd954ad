package maps_test

import (
	"math/rand"
	"slices"
	"testing"

	"almoner/api"
	"almoner/maps"
)

// orders are all orders of so many.
func orders(n int) [][]int {
	if n == 0 {
		return [][]int{{}}
	}
	var all [][]int
	for _, order := range orders(n - 1) {
		for at := range n {
			all = append(all, slices.Insert(slices.Clone(order), at, n-1))
		}
	}
	return all
}

// same fails the test if one of two maps tells something else than the other one.
func same(t *testing.T, one, other *maps.Map) {
	t.Helper()
	is(t, "Root", one.Root(), other.Root())
	if got, want := one.Pairs(), other.Pairs(); !slices.EqualFunc(got, want, samePair) {
		t.Errorf("Pairs = %v, and of the same %v", got, want)
	}
}

// P15.4: four pairs, close to one another or far, in each order.
func TestEachOrder(t *testing.T) {
	for _, four := range [][]api.Sum{
		{sum(1), sum(2), sum(3), sum(4)},
		{{}, filled(255), {128}, {31: 1}},
		{{}, {31: 1}, {31: 2}, {31: 3}},
		{filled(127), filled(128), turned(filled(127), 255), turned(filled(128), 0)},
	} {
		c := content{}
		for i, k := range four {
			c[k] = row(i + 1)
		}
		want := made(t, c)
		for _, order := range orders(4) {
			m := maps.New()
			for _, i := range order {
				put(t, m, four[i], row(i+1))
			}
			same(t, m, want)
			holds(t, m, c)
		}
	}
}

// P15.4: many pairs, in other orders.
func TestOtherOrders(t *testing.T) {
	random := rand.New(rand.NewSource(154))
	c := some(150)
	want := made(t, c)
	holds(t, want, c)
	rising := want.Pairs()
	falling := slices.Clone(rising)
	slices.Reverse(falling)
	for n := range 6 {
		order := [][]api.Pair{rising, falling}[n%2]
		m := maps.New()
		for _, p := range order {
			put(t, m, p.Key, p.Value)
		}
		same(t, m, want)
		random.Shuffle(len(order), func(i, j int) { order[i], order[j] = order[j], order[i] })
	}
}

// P15.4: others are put and taken away between the pairs, ahead of them and behind them, at keys far from them and at such as are unlike in one bit.
func TestOthersBetween(t *testing.T) {
	random := rand.New(rand.NewSource(4))
	for n := range 12 {
		c := some(n)
		want, m := made(t, c), maps.New()
		others := []api.Sum{{}, filled(255), sum(5000 + n)}
		between := func() {
			for _, k := range others {
				put(t, m, k, row(random.Intn(256)+1))
			}
			random.Shuffle(len(others), func(i, j int) { others[i], others[j] = others[j], others[i] })
			for _, k := range others {
				put(t, m, k, nil)
			}
		}
		between()
		for i := range n {
			k := sum(i)
			others = append(others, turned(k, random.Intn(256)), turned(k, 255), turned(k, 0))
			put(t, m, k, c[k])
			between()
		}
		same(t, m, want)
		holds(t, m, c)
	}
}

// P15.4: others that stay till all pairs stand there, and are taken away then.
func TestOthersTakenAwayLast(t *testing.T) {
	for n := range 10 {
		m := maps.New()
		for i := range 2 * n {
			put(t, m, sum(1000+i), row(i+1))
			if i%2 == 0 {
				put(t, m, sum(i/2), some(n)[sum(i/2)])
			}
		}
		for i := range 2 * n {
			put(t, m, sum(1000+i), nil)
		}
		same(t, m, made(t, some(n)))
		holds(t, m, some(n))
	}
}

// P15.4: what is put and taken away again changes neither root nor pairs, at each key that is unlike in one bit.
func TestPutAndTakenAway(t *testing.T) {
	m := made(t, some(3))
	root, pairs := m.Root(), m.Pairs()
	for depth := range 256 {
		k := turned(sum(1), depth)
		put(t, m, k, []byte("a"))
		if depth%9 == 0 && m.Root() == root {
			t.Errorf("with one more, unlike at %d: the same root", depth)
		}
		put(t, m, k, nil)
		if depth%9 == 0 {
			is(t, "Root", m.Root(), root)
		}
		if !slices.EqualFunc(m.Pairs(), pairs, samePair) {
			t.Errorf("unlike at %d, put and taken away: Pairs = %v", depth, m.Pairs())
		}
	}
	holds(t, m, some(3))
}

// P15.4: all taken away, in any order: an empty map; and what is put behind that stands as in a new one.
func TestAllTakenAway(t *testing.T) {
	m := maps.New()
	for round := range 4 {
		c := some(round * 7)
		for k, v := range c {
			put(t, m, k, v)
		}
		holds(t, m, c)
		for k := range c {
			put(t, m, k, nil)
		}
		holds(t, m, content{})
	}
}

// P15.4: what stood at a key before, was refused, or was put there twice, does not count.
func TestWhatStoodBefore(t *testing.T) {
	c := some(9)
	m := maps.New()
	for k := range c {
		put(t, m, k, row(256))
		m.Put(k, row(257))
		put(t, m, k, row(2))
		put(t, m, k, nil)
	}
	for k, v := range c {
		put(t, m, k, v)
		put(t, m, k, v)
		m.Put(k, row(1000))
	}
	same(t, m, made(t, c))
	holds(t, m, c)
}

// P15.4: a map of another one's pairs is the same.
func TestOfPairs(t *testing.T) {
	for n := range 30 {
		m, again := made(t, some(n)), maps.New()
		for _, p := range m.Pairs() {
			put(t, again, p.Key, p.Value)
		}
		same(t, again, m)
		same(t, again, copied(t, m))
	}
}
