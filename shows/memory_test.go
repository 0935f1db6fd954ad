package shows_test

import (
	"bytes"
	"slices"
	"sync"
	"testing"

	"almoner/api"
	"almoner/maps"
	"almoner/shows"
)

// overwrite changes all of a list, its spare room too.
func overwrite(l []api.Sum) {
	l = l[:cap(l)]
	for i := range l {
		l[i] = inverted(l[i])
	}
}

// R3: of a map that is not there, and of one that no call made: ErrNil and nothing else, and it stays so.
func TestNotThere(t *testing.T) {
	var copied *maps.Map
	copied, _ = copied.Copy()
	for what, m := range map[string]*maps.Map{"not there": nil, "zero": {}, "new": new(maps.Map), "a copy of none": copied} {
		for range 3 {
			for _, k := range []api.Sum{{}, filled(255), sum(1)} {
				if s, e := shows.Of(m, k); e != api.ErrNil || s.Which != (api.Sum{}) || len(s.Sides) != 0 {
					t.Errorf("%s: Of = %v, %v", what, s, e)
				}
			}
			m.Put(sum(1), row(3))
		}
	}
}

// R3: what is asked of none changes no map that is there; nor does a show that is not let be.
func TestNotThereBesideOthers(t *testing.T) {
	c := some(5)
	m := made(t, c)
	for range 3 {
		shows.Of(nil, sum(1))
		shows.Of(new(maps.Map), sum(1))
		shows.Check(api.Sum{}, api.Sum{}, nil, api.Show{})
		shows.Check(m.Root(), sum(1), nil, api.Show{Which: filled(255)})
		shownAs(t, m, c, sum(1))
		shownAs(t, m, c, sum(6))
		shownAs(t, maps.New(), content{}, sum(1))
	}
}

// R4: a map of which shows are asked is not changed.
func TestMapStays(t *testing.T) {
	t.Parallel()
	for n := range 7 {
		m := made(t, some(n))
		root, pairs := m.Root(), m.Pairs()
		for i := range n + 2 {
			overwrite(shown(t, m, sum(i)).Sides)
			overwrite(shown(t, m, turned(sum(i), 255)).Sides)
		}
		if m.Root() != root || !slices.EqualFunc(m.Pairs(), pairs, samePair) {
			t.Errorf("of %d keys: the map is another one", n)
		}
		for k, v := range some(n) {
			if got, e := m.Get(k); e != api.OK || !bytes.Equal(got, v) {
				t.Errorf("Get = %v, %v", got, e)
			}
		}
	}
}

// samePair is whether two pairs are the same.
func samePair(a, b api.Pair) bool { return a.Key == b.Key && bytes.Equal(a.Value, b.Value) }

// R4: a show stays, whatever is put or taken away behind it, and is let be by the root of then.
func TestShowStays(t *testing.T) {
	t.Parallel()
	for n := range 8 {
		c := some(n)
		m := made(t, c)
		for i := range n + 2 {
			s, root := shown(t, m, sum(i)), m.Root()
			put(t, m, sum(i), row(i+70))
			put(t, m, sum(i+1), row(i+71))
			put(t, m, turned(sum(i), 255), row(i+72))
			isShow(t, "behind what was put", s, c.show(sum(i)))
			taken(t, "behind what was put", root, sum(i), c[sum(i)], s)
			for j := range n + 3 {
				put(t, m, sum(j), c[sum(j)])
			}
			put(t, m, turned(sum(i), 255), nil)
			isShow(t, "behind what was taken away", s, c.show(sum(i)))
			shownAs(t, m, c, sum(i))
		}
	}
}

// R4: sides that whoever asked writes over, or puts more behind, change no other answer, neither the map's nor its copy's.
func TestSidesAreNew(t *testing.T) {
	t.Parallel()
	for n := range 7 {
		c := some(n)
		m := made(t, c)
		copied, _ := m.Copy()
		for i := range n + 2 {
			k := sum(i)
			one, two, three := shown(t, m, k), shown(t, m, k), shown(t, copied, k)
			_ = append(one.Sides, sum(-1), sum(-2))
			overwrite(one.Sides)
			isShow(t, "the second answer", two, c.show(k))
			isShow(t, "the copy's", three, c.show(k))
			overwrite(three.Sides)
			isShow(t, "the second answer", two, c.show(k))
			slices.Reverse(two.Sides)
			shownAs(t, m, c, k)
			shownAs(t, copied, c, k)
		}
	}
}

// R4: Check changes nothing that is handed in, spare room neither, whether it lets it be or not.
func TestHandedInStays(t *testing.T) {
	eachCase(t, func(t *testing.T, a asked, root api.Sum, s api.Show) {
		for _, spare := range []int{0, 1, 300} {
			room := slices.Grow(slices.Clone(s.Sides), spare)
			for i := range room[:cap(room)][len(room):] {
				room[:cap(room)][len(room)+i] = sum(i)
			}
			handed, before := room, slices.Clone(room[:cap(room)])
			v := append(slices.Clone(a.c[a.k]), row(spare)...)
			bytesBefore := slices.Clone(v)
			for n := range len(a.c[a.k]) + 1 {
				if n == 0 || n == len(a.c[a.k]) || n%40 == 1 {
					shows.Check(root, a.k, v[:n], with(s, handed))
				}
			}
			shows.Check(root, a.k, v, with(s, handed[:len(handed)/2]))
			shows.Check(root, a.k, v, api.Show{Which: filled(255), Sides: handed})
			shows.Check(root, a.k, v, api.Show{Which: filled(255), Sides: handed[:min(256, cap(handed))]})
			if !slices.Equal(handed[:cap(handed)], before) || !bytes.Equal(v, bytesBefore) {
				t.Errorf("%d to spare: what was handed in is another one", spare)
			}
		}
	})
}

// R4: a show is not kept: whatever becomes of its list behind Check, or of the bytes, each answer hangs on what is handed in then.
func TestHandedInIsNotKept(t *testing.T) {
	eachCase(t, func(t *testing.T, a asked, root api.Sum, s api.Show) {
		v, want := slices.Clone(a.c[a.k]), with(s, slices.Clone(s.Sides))
		for range 3 {
			taken(t, "at first", root, a.k, v, s)
			overwrite(s.Sides)
			if len(s.Sides) > 0 {
				refused(t, "written over", root, a.k, v, s)
			}
			taken(t, "another list", root, a.k, v, want)
			overwrite(s.Sides)
			taken(t, "written back", root, a.k, v, s)
			for i := range v {
				v[i] ^= 0x5a
			}
			if len(v) > 0 {
				refused(t, "other bytes in the same memory", root, a.k, v, s)
			}
			for i := range v {
				v[i] ^= 0x5a
			}
		}
	})
}

// R4: bytes that share memory with a side, or with a show's list, are neither changed nor taken for something else.
func TestSharedMemory(t *testing.T) {
	k, other := sum(1), sum(2)
	c := content{k: other[:], other: k[:]}
	m := made(t, c)
	s := shown(t, m, k)
	taken(t, "another key's bytes", m.Root(), k, other[:], s)
	refused(t, "its own", m.Root(), k, k[:], s)
	if len(s.Sides) > 0 {
		before := slices.Clone(s.Sides)
		refused(t, "a side's", m.Root(), k, s.Sides[0][:], s)
		refused(t, "some of a side's", m.Root(), k, s.Sides[0][3:9], s)
		if !slices.Equal(s.Sides, before) {
			t.Error("the sides are other ones")
		}
	}
	taken(t, "another key's bytes", m.Root(), k, other[:], s)
}

// R5: asked again, whatever was asked between, of this map and of others: the same.
func TestAskedAgain(t *testing.T) {
	t.Parallel()
	random := []int{3, 0, 7, 3, 11, 1, 1, 9}
	all := []content{{}, some(1), some(8), some(15)}
	var four []*maps.Map
	for _, c := range all {
		four = append(four, made(t, c))
	}
	for round := range 3 {
		for i, n := range random {
			at := (i + round) % len(all)
			shownAs(t, four[at], all[at], sum(n))
			refused(t, "other bytes", four[at].Root(), sum(n), row(77), shown(t, four[at], sum(n)))
			overwrite(shown(t, four[(at+1)%4], sum(n)).Sides)
			shows.Of(nil, sum(n))
			shownAs(t, four[at], all[at], sum(n))
		}
	}
}

// R5: maps that have the same tell the same, in whatever order it was put, and whatever was taken away.
func TestSameMapSameShow(t *testing.T) {
	t.Parallel()
	c := some(9)
	var order []api.Sum
	for n := range 9 {
		order = append(order, sum(n))
	}
	for round := range 6 {
		m := maps.New()
		slices.Reverse(order[round:])
		for i, k := range order {
			put(t, m, k, row(200))
			put(t, m, turned(k, i), row(i+1))
			put(t, m, k, c[k])
			put(t, m, turned(k, i), nil)
		}
		for n := range 11 {
			shownAs(t, m, c, sum(n))
		}
	}
}

// R5: one map may be asked by many at once, and each may change its own.
func TestAtTheSameTime(t *testing.T) {
	c := some(12)
	shared := made(t, c)
	root := shared.Root()
	s := shown(t, shared, sum(3))
	var group sync.WaitGroup
	for i := range 8 {
		group.Go(func() {
			for n := range 12 {
				shownAs(t, shared, c, sum(n+i))
				taken(t, "one show for all", root, sum(3), c[sum(3)], s)
			}
			own, _ := shared.Copy()
			if e := own.Put(sum(i), nil); e != api.OK {
				t.Errorf("Put = %v", e)
			}
			less := some(12)
			delete(less, sum(i))
			shownAs(t, own, less, sum(i))
		})
	}
	group.Wait()
	shownAs(t, shared, c, sum(3))
}
