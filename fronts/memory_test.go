package fronts_test

import (
	"math/bits"
	"reflect"
	"runtime"
	"slices"
	"sync"
	"testing"

	"almoner/api"
	"almoner/fronts"
)

// overwrite changes all of a list, its spare room too.
func overwrite(l []api.Sum) {
	l = l[:cap(l)]
	for i := range l {
		for j := range l[i] {
			l[i][j] ^= 0x5a
		}
	}
}

// kept is how many bytes an object keeps, spare room too.
func kept(v reflect.Value) uintptr {
	switch v.Kind() {
	case reflect.Pointer, reflect.Interface:
		if v.IsNil() {
			return 0
		}
		return v.Elem().Type().Size() + kept(v.Elem())
	case reflect.Slice:
		return v.Type().Elem().Size() * uintptr(v.Cap())
	case reflect.Map:
		return (v.Type().Key().Size() + v.Type().Elem().Size()) * uintptr(v.Len())
	case reflect.Struct:
		var all uintptr
		for i := range v.NumField() {
			all += kept(v.Field(i))
		}
		return all
	}
	return 0
}

// P9.3: what a front keeps is no more than grows with the number of whole trees: behind a power of two that is one, whatever there was before.
func TestKeepsNoMoreThanTrees(t *testing.T) {
	f := fronts.New()
	for n := range 1<<15 + 2 {
		trees := uintptr(bits.OnesCount(uint(n)))
		if got := kept(reflect.ValueOf(f)); got > 128+64*trees {
			t.Fatalf("behind %d leaves, of %d whole trees: %d bytes are kept", n, trees, got)
		}
		add(t, f, sum(n))
	}
}

// P9.3: many fronts of many leaves keep no more in all, wherever they keep it.
func TestManyKeepNoMore(t *testing.T) {
	var all [64]*fronts.Front
	inUse := func() uint64 {
		var m runtime.MemStats
		runtime.GC()
		runtime.ReadMemStats(&m)
		return m.HeapAlloc
	}
	l := list(1<<12 - 1)
	before := inUse()
	for i := range all {
		all[i] = grown(t, l...)
		all[i].Root()
	}
	// All leaves would be 8 MiB.
	if behind := inUse(); behind > before+1<<20 {
		t.Errorf("%d bytes are kept", behind-before)
	}
	for _, f := range all {
		if f.Size() != uint64(len(l)) {
			t.Fatalf("Size = %d", f.Size())
		}
	}
}

// R4: what is handed in is not changed, and not kept but by its content.
func TestHandedInStays(t *testing.T) {
	l := list(100)
	f := fronts.New()
	for i := range l {
		add(t, f, l[i])
		is(t, "what was handed in", l[i], sum(i))
		overwrite(l[i : i+1 : i+1])
		stands(t, f, list(i+1))
	}
}

// R4: Sums that whoever asked turns round, writes over, or puts more behind, changes nothing: neither what is asked again, nor what is added later.
func TestSumsAreNew(t *testing.T) {
	for n := range 140 {
		f := grown(t, list(n)...)
		slices.Reverse(f.Sums())
		stands(t, f, list(n))
		overwrite(f.Sums())
		stands(t, f, list(n))
		_ = append(f.Sums(), sum(1), sum(2), sum(3))
		stands(t, f, list(n))
		for more := range 9 {
			add(t, f, sum(n+more))
			overwrite(f.Sums())
		}
		stands(t, f, list(n+9))
	}
}

// R4: two answers share no memory, and one stays, whatever is added later.
func TestSumsStay(t *testing.T) {
	for n := range 140 {
		f := grown(t, list(n)...)
		early, other := f.Sums(), f.Sums()
		overwrite(other)
		root := f.Root()
		for more := range 140 {
			add(t, f, sum(n+more))
		}
		if !slices.Equal(early, wantedSums(list(n))) {
			t.Errorf("behind %d leaves: Sums is another list by now", n)
		}
		is(t, "Root that was told", root, wantedRoot(list(n)))
		overwrite(early)
		stands(t, f, list(n+140))
	}
}

// R4: a root that is written into is nobody else's, that of one leaf, too.
func TestRootIsNew(t *testing.T) {
	for n := range 9 {
		f := grown(t, list(n)...)
		root := f.Root()
		for i := range root {
			root[i] ^= 0x5a
		}
		stands(t, f, list(n))
	}
}

// R5: two fronts that grow in turns do not know of one another.
func TestInTurns(t *testing.T) {
	var all [3][]api.Sum
	three := [3]*fronts.Front{fronts.New(), fronts.New(), fronts.New()}
	for i := range 300 {
		k := (i + i/5 + i/7) % 3
		add(t, three[k], sum(i))
		all[k] = append(all[k], sum(i))
		for j, f := range three {
			stands(t, f, all[j])
		}
	}
}

// R5: two fronts of the same leaves are the same, and go on each by itself.
func TestApart(t *testing.T) {
	for n := range 40 {
		one, other := grown(t, list(n)...), grown(t, list(n)...)
		stands(t, other, list(n))
		for more := range 10 {
			add(t, one, sum(1000+more))
		}
		stands(t, other, list(n))
		stands(t, one, append(list(n), list(1010)[1000:]...))
	}
}

// R5: fronts that grow at the same time are those that grow one by one.
func TestAtTheSameTime(t *testing.T) {
	var all [8]*fronts.Front
	var group sync.WaitGroup
	for i := range all {
		group.Go(func() {
			all[i] = fronts.New()
			for n := range 100 + i {
				all[i].Add(sum(n))
				all[i].Root()
				overwrite(all[i].Sums())
			}
		})
	}
	group.Wait()
	for i, f := range all {
		stands(t, f, list(100+i))
	}
}
