package maps_test

import (
	"bytes"
	"runtime"
	"slices"
	"sync"
	"testing"

	"almoner/api"
	"almoner/maps"
)

// overwrite changes all of b, its spare room too.
func overwrite(b []byte) {
	b = b[:cap(b)]
	for i := range b {
		b[i] ^= 0x5a
	}
}

// overwritePairs changes all of a list of pairs, and their bytes.
func overwritePairs(l []api.Pair) {
	for i := range l {
		overwrite(l[i].Value)
	}
	l = l[:cap(l)]
	for i := range l {
		l[i] = api.Pair{Key: sum(-1), Value: []byte("another")}
	}
}

// R3: a map that is not there, and one that no call made: ErrNil ahead of each other error, zero values else, and it stays so.
func TestNotThere(t *testing.T) {
	for what, m := range map[string]*maps.Map{"not there": nil, "zero": {}, "new": new(maps.Map)} {
		for range 3 {
			if other, e := m.Copy(); other != nil || e != api.ErrNil {
				t.Errorf("%s: Copy = %v, %v", what, other, e)
			}
			for _, n := range []int{0, 1, api.MaxRecord, api.MaxRecord + 1, 1 << 17} {
				if e := m.Put(sum(1), make([]byte, n)); e != api.ErrNil {
					t.Errorf("%s: Put of %d bytes = %v", what, n, e)
				}
			}
			if e := m.Put(sum(1), nil); e != api.ErrNil {
				t.Errorf("%s: Put of nil = %v", what, e)
			}
			for _, k := range []api.Sum{{}, filled(255), sum(1)} {
				if v, e := m.Get(k); len(v) != 0 || e != api.ErrNil {
					t.Errorf("%s: Get = %v, %v", what, v, e)
				}
			}
			is(t, what+": Root", m.Root(), api.Sum{})
			if l := m.Pairs(); len(l) != 0 {
				t.Errorf("%s: Pairs = %v", what, l)
			}
		}
	}
}

// R3: what is asked of one that is not there changes none that is.
func TestNotThereBesideOthers(t *testing.T) {
	var none *maps.Map
	var zero maps.Map
	m := made(t, some(5))
	none.Put(sum(1), row(2))
	zero.Put(sum(1), row(2))
	zero.Put(sum(1), nil)
	holds(t, m, some(5))
	holds(t, maps.New(), content{})
}

// R4: what is handed in is not changed, its spare room neither, whether it is put or not.
func TestHandedInStays(t *testing.T) {
	v := row(1000)
	m := maps.New()
	for _, n := range []int{0, 1, 2, 31, 32, 255, 256, 257, 900} {
		k := sum(n)
		m.Put(k, v[:n])
		m.Put(k, v[:n/2])
		m.Root()
		m.Pairs()
		if !bytes.Equal(v, row(1000)) {
			t.Fatalf("of %d bytes: what was handed in is another one", n)
		}
		is(t, "the key", k, sum(n))
	}
}

// R4: what is put is kept by its content: whatever becomes of that memory, or of the key, the map stays, and so does its copy.
func TestPutByContent(t *testing.T) {
	m, c := maps.New(), content{}
	v := make([]byte, 300)
	for n := range 30 {
		copy(v, row(300))
		k := sum(n)
		put(t, m, k, v[:n*8+1])
		c[k] = row(n*8 + 1)
		other := copied(t, m)
		overwrite(v)
		overwrite(k[:])
		holds(t, m, c)
		holds(t, other, c)
	}
}

// R4: bytes that one list has all of, at many keys, are each of their own.
func TestPutOfSharedMemory(t *testing.T) {
	v := row(256)
	m, c := maps.New(), content{}
	for n := range 20 {
		put(t, m, sum(n), v[n:n+40])
		c[sum(n)] = row(256)[n : n+40]
	}
	one, _ := m.Get(sum(3))
	overwrite(one)
	overwrite(v)
	holds(t, m, c)
}

// R4: bytes of Get that whoever asked turns, or puts more behind, change nothing: neither the map, nor its copy, nor another answer.
func TestGetIsNew(t *testing.T) {
	c := some(12)
	m := made(t, some(12))
	other := copied(t, m)
	for k, v := range c {
		one, _ := m.Get(k)
		two, _ := m.Get(k)
		three, _ := other.Get(k)
		overwrite(one)
		_ = append(one, 1, 2, 3)
		if !bytes.Equal(two, v) || !bytes.Equal(three, v) {
			t.Errorf("what is told of %x twice shares memory", k)
		}
		overwrite(two)
		overwrite(three)
		has(t, m, k, v)
		has(t, other, k, v)
	}
	holds(t, m, c)
	holds(t, other, c)
}

// R4: pairs that whoever asked turns, writes over, or puts more behind, change nothing, nor do two answers share memory.
func TestPairsAreNew(t *testing.T) {
	for n := range 20 {
		c := some(n)
		m := made(t, some(n))
		other := copied(t, m)
		for _, change := range []func([]api.Pair){slices.Reverse[[]api.Pair], overwritePairs, func(l []api.Pair) { _ = append(l, api.Pair{Key: sum(-2)}) }} {
			one, two, three := m.Pairs(), m.Pairs(), other.Pairs()
			change(one)
			for _, l := range [][]api.Pair{two, three} {
				if !slices.EqualFunc(l, c.pairs(), samePair) {
					t.Errorf("of %d keys: what is told twice shares memory", n)
				}
			}
			change(three)
			holds(t, m, c)
			holds(t, other, c)
		}
	}
}

// R4: the lists within one answer share no memory, their spare room neither.
func TestPairsAreApart(t *testing.T) {
	m, c := maps.New(), content{}
	v := row(40)
	for n := range 20 {
		put(t, m, sum(n), v)
		c[sum(n)] = row(40)
	}
	l, want := m.Pairs(), c.pairs()
	for i := range l {
		overwrite(l[i].Value)
		_ = append(l[i].Value, row(100)...)
		for j := i + 1; j < len(l); j++ {
			if !samePair(l[j], want[j]) {
				t.Fatalf("the pair %d shares memory with the pair %d", i, j)
			}
		}
	}
	holds(t, m, c)
}

// R4: what was told stays, whatever is put or taken away behind that.
func TestToldStays(t *testing.T) {
	m := made(t, some(10))
	pairs, root := m.Pairs(), m.Root()
	v, _ := m.Get(sum(3))
	for n := range 10 {
		put(t, m, sum(n), row(9)[n%9:])
		put(t, m, sum(n), nil)
		put(t, m, sum(n+10), row(5))
	}
	if !slices.EqualFunc(pairs, some(10).pairs(), samePair) || root != some(10).root() || !bytes.Equal(v, some(10)[sum(3)]) {
		t.Error("what was told is something else by now")
	}
}

// change takes away, puts again and puts anew, in a map and in what it is wanted to have.
func change(t *testing.T, m *maps.Map, c content, first int) {
	t.Helper()
	for i := first; i < first+9; i += 3 {
		put(t, m, sum(i), nil)
		delete(c, sum(i))
		put(t, m, sum(i+1), row(first+30))
		c[sum(i+1)] = row(first + 30)
		put(t, m, sum(i+100*first), row(first+50))
		c[sum(i+100*first)] = row(first + 50)
	}
}

// R5: a copy and the map that it was made of are changed, each behind that, in both orders: what is put, put again, and taken away in one is not in the other one; nor is it in a copy of the copy.
func TestApart(t *testing.T) {
	for n := range 12 {
		for _, turn := range []bool{false, true} {
			c, d := some(n), some(n)
			m := made(t, some(n))
			other := copied(t, m)
			if turn {
				m, other = other, m
			}
			change(t, m, c, 1)
			holds(t, other, some(n))
			holds(t, m, c)
			change(t, other, d, 2)
			holds(t, m, c)
			holds(t, other, d)
			third, before := copied(t, other), d.pairs()
			change(t, other, d, 0)
			if got := third.Pairs(); !slices.EqualFunc(got, before, samePair) {
				t.Errorf("of %d keys: a copy of the copy has %v", n, got)
			}
			change(t, third, content{}, 3)
			holds(t, other, d)
			holds(t, m, c)
		}
	}
}

// R5: of a map that is empty, or was emptied, a copy goes on by itself too.
func TestEmptyApart(t *testing.T) {
	m := maps.New()
	other := copied(t, m)
	put(t, m, sum(1), row(3))
	holds(t, other, content{})
	put(t, other, sum(2), row(4))
	holds(t, m, content{sum(1): row(3)})
	put(t, m, sum(1), nil)
	third := copied(t, m)
	put(t, third, sum(1), row(5))
	holds(t, m, content{})
	holds(t, other, content{sum(2): row(4)})
	holds(t, third, content{sum(1): row(5)})
}

// R5: two maps that change in turns do not know of one another.
func TestInTurns(t *testing.T) {
	var all [3]content
	var three [3]*maps.Map
	for i := range three {
		all[i], three[i] = content{}, maps.New()
	}
	for i := range 120 {
		n := (i + i/5 + i/7) % 3
		k, v := sum(i%17), row(i+1)
		put(t, three[n], k, v)
		all[n][k] = v
		if i%4 == 0 {
			k = sum((i + 3) % 17)
			put(t, three[n], k, nil)
			delete(all[n], k)
		}
		if i%10 == 0 {
			for j, m := range three {
				holds(t, m, all[j])
			}
		}
	}
}

// R5: maps that change at the same time are those that change one by one, and of one map many may ask at once.
func TestAtTheSameTime(t *testing.T) {
	shared := made(t, some(15))
	var all [8]*maps.Map
	var group sync.WaitGroup
	for i := range all {
		group.Go(func() {
			m := maps.New()
			for n := range 15 + i {
				m.Put(sum(n+40), row(n+1))
				m.Put(sum(n), some(30)[sum(n)])
				m.Put(sum(n+40), nil)
				m.Root()
				overwritePairs(m.Pairs())
			}
			all[i] = m
			holds(t, shared, some(15))
			other, _ := shared.Copy()
			other.Put(sum(i), nil)
		})
	}
	group.Wait()
	for i, m := range all {
		holds(t, m, some(15+i))
	}
	holds(t, shared, some(15))
}

// P15.2: what was taken away, or stands there no more, is not kept.
func TestTakenAwayIsNotKept(t *testing.T) {
	inUse := func() uint64 {
		var m runtime.MemStats
		runtime.GC()
		runtime.ReadMemStats(&m)
		return m.HeapAlloc
	}
	m := maps.New()
	before := inUse()
	for n := range 1 << 16 {
		put(t, m, sum(n), row(256))
		put(t, m, sum(n), nil)
		put(t, m, sum(-1), row(n%256+1))
	}
	// All bytes would be 16 MiB, for each of both.
	if behind := inUse(); behind > before+1<<20 {
		t.Errorf("%d bytes are kept", behind-before)
	}
	holds(t, m, content{sum(-1): row(256)})
}
