package clashes_test

import (
	"bytes"
	"slices"
	"sync"
	"testing"

	"almoner/api"
	"almoner/clashes"
	"almoner/shas"
)

// roomy is a copy of the bytes, with room behind them in which others stand.
func roomy(b []byte) []byte {
	return slices.Concat(b, []byte("room behind"))[:len(b)]
}

// roomyList is likewise a copy of a list, and of each entry of it.
func roomyList(l [][]byte) [][]byte {
	var out [][]byte
	for _, b := range slices.Concat(l, [][]byte{[]byte("one"), []byte("more")}) {
		out = append(out, roomy(b))
	}
	return out[:len(l)]
}

// roomySums is likewise a copy of a list of sums.
func roomySums(l []api.Sum) []api.Sum {
	return slices.Concat(l, []api.Sum{sum(1), sum(2)})[:len(l)]
}

// scene is a call, and all that is handed in to it.
type scene struct {
	a, b [][]byte
	sums []api.Sum
	call func(s scene) (api.Clash, bool)
}

// fresh is the scene, of copies of all that is handed in, with room behind them.
func (s scene) fresh() scene {
	return scene{roomyList(s.a), roomyList(s.b), roomySums(s.sums), s.call}
}

// tells is what the call answers.
func (s scene) tells() (api.Clash, bool) { return s.call(s) }

// overwrite changes all of a list of bytes, its room too.
func overwrite(b []byte) {
	b = b[:cap(b)]
	for i := range b {
		b[i] ^= 0x5a
	}
}

// overwrite changes all that is handed in, all room too; behind a second time it is as it was.
func (s scene) overwrite() {
	for _, l := range [][][]byte{s.a, s.b} {
		for _, b := range l[:cap(l)] {
			overwrite(b)
		}
		slices.Reverse(l[:cap(l)])
	}
	for i := range s.sums[:cap(s.sums)] {
		overwrite(s.sums[:cap(s.sums)][i][:])
	}
}

// all is all bytes of all that is handed in, of all room too, in a row.
func (s scene) all() []byte {
	var out []byte
	for _, l := range [][][]byte{s.a, s.b} {
		for _, b := range l[:cap(l)] {
			out = append(append(out, byte(len(b))), b[:cap(b)]...)
		}
	}
	for _, one := range s.sums[:cap(s.sums)] {
		out = append(out, one[:]...)
	}
	return out
}

func callIs(s scene) (api.Clash, bool) {
	c := api.Clash{A: s.a[0], B: s.b[0]}
	return api.Clash{}, clashes.Is(c)
}

func callLists(s scene) (api.Clash, bool) { return clashes.Lists(s.a, s.b) }

func callLink(s scene) (api.Clash, bool) { return clashes.Link(s.a, s.b, s.sums) }

// callPath is of a place.
func callPath(at int) func(s scene) (api.Clash, bool) {
	return func(s scene) (api.Clash, bool) { return clashes.Path(s.a, at, s.b[0], s.sums) }
}

// scenes are calls of all kinds, some of them with a clash where the sums are weak.
func scenes(t *testing.T) []scene {
	t.Helper()
	n, _ := first(t, func(n int) bool { return shas.Of(entry(n+5000)) == shas.Of(entry(1)) })
	out := []scene{
		{list(2)[1:], [][]byte{entry(n + 5000)}, nil, callIs},
		{list(2)[1:], list(2)[1:], nil, callIs},
		{list(2)[:1], list(2)[1:], nil, callIs},
	}
	for _, many := range []int{1, 2, 3, 5, 8, 9} {
		l := list(many)
		for _, at := range places(many) {
			other, _ := forged(t, l, at, func(other [][]byte) bool { return rootOf(other) == rootOf(l) })
			path, link := pathOf(l, at), linkOf(l, at+1)
			n, _ := first(t, func(n int) bool { return letPath(l, at, entry(n+5000), path) })
			a, _ := forged(t, l[:at+1], at/2, func(a [][]byte) bool { return letLink(a, l, link) })
			out = append(out,
				scene{l, other, nil, callLists},
				scene{other, l, nil, callLists},
				scene{l, l, nil, callLists},
				scene{l, [][]byte{entry(n + 5000)}, path, callPath(at)},
				scene{l, l[at : at+1], path, callPath(at)},
				scene{l, [][]byte{entry(100)}, path, callPath(at + 1)},
				scene{a, l, link, callLink},
				scene{l[:at+1], l, link, callLink},
				scene{l, l, linkOf(l, many), callLink})
		}
	}
	return out
}

// copied is a copy of a clash.
func copied(c api.Clash) api.Clash {
	return api.Clash{A: slices.Clone(c.A), B: slices.Clone(c.B)}
}

func sameClash(c, d api.Clash) bool { return bytes.Equal(c.A, d.A) && bytes.Equal(c.B, d.B) }

// R4: what is handed in is not changed, its room neither, and its room is no part of it; nor does an answer share memory with it.
func TestHandedInStays(t *testing.T) {
	met := 0
	for _, s := range scenes(t) {
		want, told := s.tells()
		s = s.fresh()
		before := s.all()
		c, roomyTold := s.tells()
		if told {
			met++
		}
		if told != roomyTold {
			t.Errorf("with room behind it, %v is told in the place of %v", roomyTold, told)
		}
		if !sameClash(c, want) {
			t.Errorf("with room behind it, %x is told in the place of %x", c, want)
		}
		if !bytes.Equal(s.all(), before) {
			t.Error("what was handed in is another one")
		}
		overwrite(c.A)
		overwrite(c.B)
		if !bytes.Equal(s.all(), before) {
			t.Error("what was answered is memory of what was handed in")
		}
	}
	seen(t, met)
}

// R4: both lists of an answer share no memory, nor do two answers; and whoever asked may turn them: the next answer is the same.
func TestAnswersAreNew(t *testing.T) {
	for _, s := range scenes(t) {
		one, told := s.tells()
		other, again := s.tells()
		want := copied(one)
		if told != again || !sameClash(other, want) {
			t.Errorf("told twice, an answer is another one: %x, %x", one, other)
		}
		overwrite(one.A)
		if !bytes.Equal(one.B, want.B) || !sameClash(other, want) {
			t.Error("the first list of an answer is memory of another list")
		}
		overwrite(one.B)
		if !sameClash(other, want) {
			t.Error("the other list of an answer is memory of another answer")
		}
		overwrite(other.B)
		if !bytes.Equal(other.A, want.A) {
			t.Error("the other list of an answer is memory of the first one")
		}
		slices.Reverse(other.A)
		if next, told := s.tells(); told != again || !sameClash(next, want) {
			t.Errorf("turned by whoever asked, the answer is another one: %x, not %x", next, want)
		}
	}
}

// R4: an answer stays, whatever becomes of what was handed in.
func TestAnswersStay(t *testing.T) {
	for _, s := range scenes(t) {
		s = s.fresh()
		c, _ := s.tells()
		want := copied(c)
		s.overwrite()
		if !sameClash(c, want) {
			t.Error("an answer is another one by now")
		}
		s.tells()
		if !sameClash(c, want) {
			t.Error("behind another call an answer is another one")
		}
	}
}

// R4, R5: nothing is kept of what was handed in, or was asked before: the answer is of what is there by now.
func TestNothingIsKept(t *testing.T) {
	for _, s := range scenes(t) {
		s = s.fresh()
		want, told := s.tells()
		s.overwrite()
		fresh := s.fresh()
		c, changed := s.tells()
		if other, of := fresh.tells(); of != changed || !sameClash(other, c) {
			t.Error("an answer is not of what is there by now")
		}
		s.overwrite()
		if c, again := s.tells(); again != told || !sameClash(c, want) {
			t.Error("an answer is another one behind another call")
		}
	}
}

// R5: what is asked at the same time, of the same lists, is what is asked one by one.
func TestAtTheSameTime(t *testing.T) {
	all := scenes(t)
	want := make([]api.Clash, len(all))
	told := make([]bool, len(all))
	for i, s := range all {
		want[i], told[i] = s.tells()
	}
	var group sync.WaitGroup
	for range 8 {
		group.Go(func() {
			for i, s := range all {
				if c, is := s.tells(); is != told[i] || !sameClash(c, want[i]) {
					t.Errorf("at the same time as others, %v and %x are told in the place of %v and %x", is, c, told[i], want[i])
				}
			}
		})
	}
	group.Wait()
}
