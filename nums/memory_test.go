package nums_test

import (
	"bytes"
	"math/rand"
	"slices"
	"testing"

	"almoner/api"
	"almoner/nums"
)

// lists are what is handed in to the calls of this file: each has spare room, so that a call that writes into it is seen.
type lists struct {
	b, l, told, toldSums []byte
	sums                 []api.Sum
}

// newLists: those whose parts have so many items.
func newLists(n int) lists {
	spare := func(b []byte) []byte { return slices.Concat(b, row(100))[:len(b)] }
	return lists{
		b:        spare(row(n)),
		l:        spare(row(n)),
		told:     spare(append([]byte{0, 0, 0, byte(n)}, row(n)...)),
		toldSums: spare(append([]byte{0, byte(n)}, flat(someSums(n))...)),
		sums:     someSums(n + 4)[:n],
	}
}

// whole: all its bytes, the spare room's too.
func (x lists) whole() []byte {
	return slices.Concat(x.b[:cap(x.b)], x.l[:cap(x.l)], x.told[:cap(x.told)], x.toldSums[:cap(x.toldSums)], flat(x.sums[:cap(x.sums)]))
}

// fill: writes into all of an answer, its spare room too.
func fill(answer []byte) {
	for i := range answer[:cap(answer)] {
		answer[:cap(answer)][i] ^= 0x5a
	}
}

func fillSums(answer []api.Sum) {
	for i := range answer[:cap(answer)] {
		fill(answer[:cap(answer)][i][:])
	}
}

// answers are what the calls answer of one x.
type answers struct {
	lists [][]byte
	sums  []api.Sum
}

func ask(x lists) answers {
	var a answers
	for _, count := range []int{-1, 0, 1, 8, 9} {
		a.lists = append(a.lists, nums.Put(x.b, 0x1122334455667788, count))
	}
	a.lists = append(a.lists, nums.PutBytes(x.b, x.l), nums.PutBytes(x.b, x.b), nums.PutBytes(x.b, nil), nums.PutBytes(nil, x.l))
	a.lists = append(a.lists, nums.PutSums(x.b, x.sums), nums.PutSums(x.b, nil), nums.PutSums(nil, x.sums))
	got, _, _ := nums.GetBytes(x.told)
	a.lists = append(a.lists, got)
	a.sums, _, _ = nums.GetSums(x.toldSums)
	return a
}

func (a answers) clone() answers {
	var c answers
	for _, l := range a.lists {
		c.lists = append(c.lists, slices.Clone(l))
	}
	c.sums = slices.Clone(a.sums)
	return c
}

func (a answers) equal(c answers) bool {
	return slices.EqualFunc(a.lists, c.lists, bytes.Equal) && slices.Equal(a.sums, c.sums)
}

// R4: what is handed in is not changed, its spare room neither.
func TestHandedInStays(t *testing.T) {
	for _, n := range []int{0, 1, 2, 33} {
		x := newLists(n)
		before := x.whole()
		ask(x)
		if !bytes.Equal(x.whole(), before) {
			t.Errorf("of %d items: what was handed in is another one", n)
		}
	}
}

// R4: whoever writes into an answer, or behind it, changes neither what was handed in nor another answer.
func TestAnswersAreNew(t *testing.T) {
	for _, n := range []int{0, 1, 2, 33} {
		x := newLists(n)
		before := x.whole()
		a := ask(x)
		want := a.clone()
		other := ask(x)
		for _, l := range a.lists {
			fill(l)
		}
		fillSums(a.sums)
		if !bytes.Equal(x.whole(), before) {
			t.Errorf("of %d items: an answer shares memory with what was handed in", n)
		}
		if !other.equal(want) {
			t.Errorf("of %d items: two answers share memory", n)
		}
	}
}

// R4: an answer doesn't change when what was handed in does.
func TestAnswersStay(t *testing.T) {
	for _, n := range []int{0, 1, 2, 33} {
		x := newLists(n)
		a := ask(x)
		want := a.clone()
		for _, l := range [][]byte{x.b, x.l, x.told, x.toldSums} {
			fill(l)
		}
		fillSums(x.sums)
		if !a.equal(want) {
			t.Errorf("of %d items: an answer changed with what was handed in", n)
		}
	}
}

// R4, R5: empty and nil mean the same, and no answer hangs on a capacity or on earlier calls.
func TestSameContentSameAnswer(t *testing.T) {
	for _, n := range []int{0, 1, 2, 33} {
		x := newLists(n)
		want := ask(x)
		tight := lists{slices.Clip(x.b), slices.Clip(x.l), slices.Clip(x.told), slices.Clip(x.toldSums), slices.Clip(x.sums)}
		if n == 0 {
			tight.b, tight.l, tight.sums = nil, nil, nil
		}
		if !ask(tight).equal(want) || !ask(x).equal(want) {
			t.Errorf("of %d items: the same content, another answer", n)
		}
	}
}

// R1, R2: whatever bytes there are, no call panics, beside an error stands nothing, and what is got was there.
func TestAnyBytes(t *testing.T) {
	r := rand.New(rand.NewSource(3))
	for range 20000 {
		b := make([]byte, r.Intn(80))
		r.Read(b)
		for i := range min(len(b), r.Intn(5)) {
			b[i] = 0
		}
		count := r.Intn(14) - 3
		if n, e := nums.Get(b, count); e != api.OK && n != 0 || e == api.OK && !bytes.Equal(nums.Put(nil, n, count), b[:count]) {
			t.Fatalf("Get(%v, %d) = %d, %d", b, count, n, e)
		}
		if l, took, e := nums.GetBytes(b); e != api.OK && (len(l) != 0 || took != 0) || e == api.OK && !bytes.Equal(nums.PutBytes(nil, l), b[:took]) {
			t.Fatalf("GetBytes(%v) = %v, %d, %d", b, l, took, e)
		}
		if l, took, e := nums.GetSums(b); e != api.OK && (len(l) != 0 || took != 0) || e == api.OK && !bytes.Equal(nums.PutSums(nil, l), b[:took]) {
			t.Fatalf("GetSums(%v) = %v, %d, %d", b, l, took, e)
		}
	}
}
