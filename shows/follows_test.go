package shows_test

import (
	"bytes"
	"fmt"
	"slices"
	"sync/atomic"
	"testing"

	"almoner/api"
	"almoner/maps"
	"almoner/shows"
)

// letBe fails the test if the show of a key is not let be by the map's root.
func letBe(t *testing.T, m *maps.Map, k api.Sum) {
	t.Helper()
	v, e := m.Get(k)
	if e != api.OK {
		t.Fatalf("Get = %v", e)
	}
	taken(t, fmt.Sprintf("%d bytes at %x", len(v), k), m.Root(), k, v, shown(t, m, k))
}

// P16.3: the show of each key is let be, by the map's root, of what stands there, while the map grows and shrinks.
func TestEachIsLetBe(t *testing.T) {
	t.Parallel()
	m := maps.New()
	for n := range 12 {
		put(t, m, sum(n), row(n*20+1))
		put(t, m, parting(sum(n), 200, n), row(3))
		for _, k := range []api.Sum{sum(n), sum(n / 2), parting(sum(n), 200, n), parting(sum(n), 200, n+1), sum(n + 1), {}, filled(255)} {
			letBe(t, m, k)
		}
	}
	for n := range 12 {
		put(t, m, sum(n), nil)
		letBe(t, m, sum(n))
		letBe(t, m, sum(11))
		put(t, m, parting(sum(n), 200, n), row(n%4))
		letBe(t, m, parting(sum(n), 200, n))
	}
}

// P16.3: each key that is unlike one of the map's in one bit, there or not.
func TestEachNearIsLetBe(t *testing.T) {
	t.Parallel()
	m := made(t, some(3))
	for _, depth := range steps() {
		k := turned(sum(depth%3), depth)
		letBe(t, m, k)
		put(t, m, k, []byte("a"))
		letBe(t, m, k)
		letBe(t, m, sum(depth%3))
		put(t, m, k, nil)
	}
}

// summed is what the sum of some bytes at a key is of.
func summed(k api.Sum, v []byte) []byte {
	if len(v) == 0 {
		return []byte{2}
	}
	return slices.Concat([]byte{3}, k[:], v)
}

// clash is two unlike lists of bytes, out of what a map has and what a show says of it: at the first place, from the root down, at which they are unlike. So what they are summed up to is the same.
func clash(c content, k api.Sum, v []byte, s api.Show) (a, b []byte) {
	own, said := wantedLead(k, c[k], c.show(k)), wantedLead(k, v, s)
	for depth, other := range c.beside(k) {
		told := tells(s, depth)
		if own[depth+1] != said[depth+1] || other != told {
			both := [2][2]api.Sum{{other, other}, {told, told}}
			both[0][side(k, depth)], both[1][side(k, depth)] = own[depth+1], said[depth+1]
			return slices.Concat([]byte{4}, both[0][0][:], both[0][1][:]), slices.Concat([]byte{4}, both[1][0][:], both[1][1][:])
		}
	}
	return summed(k, c[k]), summed(k, v)
}

// tellsClash fails the test if the show lets other bytes than the map's be at the key, by its root, and no two lists of bytes of one sum follow. It is whether it lets them be.
func tellsClash(t *testing.T, what string, c content, root, k api.Sum, v []byte, s api.Show) bool {
	t.Helper()
	if bytes.Equal(v, c[k]) || !shows.Check(root, k, v, s) {
		return false
	}
	if a, b := clash(c, k, v, s); bytes.Equal(a, b) || hash(a) != hash(b) {
		t.Errorf("%s: let be, and no clash: %x, %x", what, a, b)
	}
	return true
}

// P16.3: a show that is let be of other bytes tells two lists of bytes of one sum: so over SHA-256 none of these is, over weak sums many are. There are the key's own show, those of other keys and other maps, and such as are made up so that they might lead to the root.
func TestOtherBytesTellClash(t *testing.T) {
	var many atomic.Int64
	eachCase(t, func(t *testing.T, a asked, root api.Sum, s api.Show) {
		m := made(t, a.c)
		for n := range 6 {
			v := row(n * n)
			another, changed := made(t, a.c), slices.Clone(s.Sides)
			put(t, another, a.k, v)
			for i := range changed {
				if n>>(i%5)&1 == 1 {
					changed[i] = sum(n + i)
				}
			}
			near := turned(a.k, n*50%256)
			for what, s := range map[string]api.Show{
				"its own": s, "none": {}, "a near key's": shown(t, m, near), "another key's": shown(t, m, sum(n)),
				"another map's": shown(t, another, a.k), "of other sides": with(s, changed),
				"the root told": {Which: turned(api.Sum{}, 0), Sides: []api.Sum{root}},
				"deeper ones":   {Which: turned(s.Which, n), Sides: append(slices.Clone(s.Sides), sum(n))},
			} {
				if tellsClash(t, what, a.c, root, a.k, v, s) {
					many.Add(1)
				}
				if tellsClash(t, what+", of a near key", a.c, root, near, v, s) {
					many.Add(1)
				}
			}
		}
	})
	if weak == "" && many.Load() > 0 {
		t.Errorf("%d shows are let be of other bytes", many.Load())
	}
	if weak != "" && many.Load() == 0 {
		t.Error("no show was let be of other bytes: this has tested nothing")
	}
}

// P16.3: what is asked of each key of one map by each other key's show, and of its bytes: only what stands there is let be.
func TestEachByEach(t *testing.T) {
	t.Parallel()
	c := some(6)
	c[turned(sum(1), 255)] = row(4)
	c[turned(sum(1), 130)] = row(5)
	m := made(t, c)
	root := m.Root()
	for _, k := range m.Pairs() {
		for _, other := range m.Pairs() {
			s := shown(t, m, other.Key)
			for _, v := range [][]byte{k.Value, other.Value, nil} {
				if k.Key == other.Key && len(v) > 0 {
					taken(t, "its own", root, k.Key, v, s)
				} else {
					refused(t, "of another key, or without bytes", root, k.Key, v, s)
				}
				tellsClash(t, "of another key", c, root, k.Key, v, s)
			}
		}
	}
}
