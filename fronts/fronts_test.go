package fronts_test

import (
	"bytes"
	"crypto/sha256"
	"encoding/hex"
	"math/rand"
	"slices"
	"testing"

	"almoner/api"
	"almoner/fronts"
	"almoner/leaves"
)

// sum is one of all bytes unlike, another one for each number.
func sum(n int) api.Sum { return sha256.Sum256([]byte{byte(n), byte(n >> 8), byte(n >> 16), 's'}) }

// list is so many sums, no two the same.
func list(n int) []api.Sum {
	l := make([]api.Sum, n)
	for i := range l {
		l[i] = sum(i)
	}
	return l
}

// wantedNode is a node's sum by the document's words.
func wantedNode(l, r api.Sum) api.Sum {
	return sha256.Sum256(slices.Concat([]byte{1}, l[:], r[:]))
}

// wantedRoot is the root of all by the document's words.
func wantedRoot(l []api.Sum) api.Sum {
	switch len(l) {
	case 0:
		return sha256.Sum256(nil)
	case 1:
		return l[0]
	}
	first := 1
	for first*2 < len(l) {
		first *= 2
	}
	return wantedNode(wantedRoot(l[:first]), wantedRoot(l[first:]))
}

// wantedSums is the roots of the whole trees by the document's words: as many leaves as the greatest power of two that is not more, and of the others likewise, till none are left.
func wantedSums(l []api.Sum) []api.Sum {
	var out []api.Sum
	for len(l) > 0 {
		first := 1
		for first*2 <= len(l) {
			first *= 2
		}
		out = append(out, wantedRoot(l[:first]))
		l = l[first:]
	}
	return out
}

// add makes the leaves' sums stand in the front.
func add(t *testing.T, f *fronts.Front, l ...api.Sum) {
	t.Helper()
	for _, s := range l {
		if e := f.Add(s); e != api.OK {
			t.Fatalf("Add = %v", e)
		}
	}
}

// grown is a front of these leaves' sums.
func grown(t *testing.T, l ...api.Sum) *fronts.Front {
	t.Helper()
	f := fronts.New()
	add(t, f, l...)
	return f
}

// is fails the test if the sum is not the one that is wanted.
func is(t *testing.T, what string, got, want api.Sum) {
	t.Helper()
	if got != want {
		t.Errorf("%s = %x, not %x", what, got, want)
	}
}

// stands fails the test if the front isn't that of these leaves' sums.
func stands(t *testing.T, f *fronts.Front, l []api.Sum) {
	t.Helper()
	if got := f.Size(); got != uint64(len(l)) {
		t.Errorf("behind %d leaves: Size = %d", len(l), got)
	}
	if got, want := f.Root(), wantedRoot(l); got != want {
		t.Errorf("behind %d leaves: Root = %x, not %x", len(l), got, want)
	}
	if got, want := f.Sums(), wantedSums(l); !slices.Equal(got, want) {
		t.Errorf("behind %d leaves: Sums = %x, not %x", len(l), got, want)
	}
}

// digits is a sum of its digits of 16.
func digits(t *testing.T, text string) api.Sum {
	t.Helper()
	b, err := hex.DecodeString(text)
	if err != nil || len(b) != len(api.Sum{}) {
		t.Fatalf("%q is no sum", text)
	}
	return api.Sum(b)
}

// P9.1: a front of no leaves; no sums are none, and the root is that of none.
func TestNew(t *testing.T) {
	f := fronts.New()
	if f == nil || f.Size() != 0 || len(f.Sums()) != 0 {
		t.Fatalf("New = %v", f)
	}
	is(t, "New: Root", f.Root(), digits(t, "e3b0c44298fc1c149afbf4c8996fb92427ae41e4649b934ca495991b7852b855"))
	is(t, "New: Root", f.Root(), leaves.Root(nil))
	stands(t, f, nil)
}

// P9.1: each call makes another one.
func TestNewIsAnotherOne(t *testing.T) {
	f := fronts.New()
	add(t, f, list(5)...)
	stands(t, fronts.New(), nil)
	stands(t, f, list(5))
}

// P9.2, P9.3: what the document tells of three leaves, and each number below.
func TestFew(t *testing.T) {
	a, b, c := sum(1), sum(2), sum(3)
	ab := leaves.Node(a, b)
	f := fronts.New()
	for _, step := range []struct {
		more, root api.Sum
		sums       []api.Sum
	}{
		{a, a, []api.Sum{a}},
		{b, ab, []api.Sum{ab}},
		{c, leaves.Node(ab, c), []api.Sum{ab, c}},
	} {
		add(t, f, step.more)
		is(t, "Root", f.Root(), step.root)
		if got := f.Sums(); !slices.Equal(got, step.sums) {
			t.Errorf("Sums = %x, not %x", got, step.sums)
		}
	}
	if f.Size() != 3 {
		t.Errorf("Size = %d", f.Size())
	}
}

// P9.2: whatever the sum is, it stands behind all others: noughts, the highest bytes, one that is there, the root itself.
func TestAddAnySum(t *testing.T) {
	highest := api.Sum(bytes.Repeat([]byte{255}, 32))
	for n := range 20 {
		for _, more := range []api.Sum{{}, {1}, {31: 1}, highest, sum(0), sum(n - 1), wantedRoot(list(n)), leaves.Leaf(nil)} {
			f := grown(t, list(n)...)
			add(t, f, more)
			stands(t, f, append(list(n), more))
		}
	}
}

// P9.2: the same sum again and again: each is a leaf more.
func TestAddTheSame(t *testing.T) {
	for _, one := range []api.Sum{{}, sum(7)} {
		f := fronts.New()
		for n := range 70 {
			stands(t, f, slices.Repeat([]api.Sum{one}, n))
			add(t, f, one)
		}
	}
}

// P9.2: each leaf and its place count.
func TestAddInOrder(t *testing.T) {
	for n := 2; n < 40; n++ {
		root := grown(t, list(n)...).Root()
		for i := range n {
			l := list(n)
			l[i][31] ^= 1
			f := grown(t, l...)
			stands(t, f, l)
			if f.Root() == root {
				t.Errorf("of %d leaves, with the one at %d another one: the same root", n, i)
			}
			l = list(n)
			l[i], l[(i+1)%n] = l[(i+1)%n], l[i]
			f = grown(t, l...)
			stands(t, f, l)
			if f.Root() == root {
				t.Errorf("of %d leaves, with the one at %d and the next one changed: the same root", n, i)
			}
		}
	}
}

// P9.3: each number of leaves up to some hundreds, all powers of two among them, and what is round these; all is asked between each two Adds.
func TestEveryNumber(t *testing.T) {
	f := fronts.New()
	for n, l := range list(600) {
		stands(t, f, list(n))
		is(t, "Root, by leaves.Root,", f.Root(), leaves.Root(list(n)))
		add(t, f, l)
	}
	stands(t, f, list(600))
}

// P9.3, R1: many leaves.
func TestMany(t *testing.T) {
	all := list(1<<16 + 2)
	f := fronts.New()
	for _, n := range []int{1<<13 - 1, 1 << 13, 1<<13 + 1, 50000, 1<<16 - 2, 1<<16 - 1, 1 << 16, 1<<16 + 1, 1<<16 + 2} {
		add(t, f, all[f.Size():n]...)
		stands(t, f, all[:n])
	}
}

// P9.3: the roots that logs of RFC 6962 are tested by.
func TestRootKnown(t *testing.T) {
	f := fronts.New()
	for i, c := range []struct{ entry, root string }{
		{"", "6e340b9cffb37a989ca544e6bb780a2c78901d3fb33738768511a30617afa01d"},
		{"00", "fac54203e7cc696cf0dfcb42c92a1d9dbaf70ad9e621f4bd8d98662f00e3c125"},
		{"10", "aeb6bcfe274b70a14fb067a5e5578264db0fa9b51af5e0ba159158f329e06e77"},
		{"2021", "d37ee418976dd95753c1c73862b9398fa2a2cf9b4ff0fdfe8b30cd95209614b7"},
		{"3031", "4e3bbb1f7b478dcfe71fb631631519a3bca12c9aefca1612bfce4c13a86264d4"},
		{"40414243", "76e67dadbcdf1e10e1b74ddc608abd2f98dfb16fbce75277b5232a127f2087ef"},
		{"5051525354555657", "ddb89be403809e325750d3d263cd78929c2942b7942a34b77e122c9594a74c8c"},
		{"606162636465666768696a6b6c6d6e6f", "5dc9da79a70659a9ad559cb701ded9a2ab9d823aad2f4960cfe370eff4604328"},
	} {
		b, err := hex.DecodeString(c.entry)
		if err != nil {
			t.Fatal(err)
		}
		add(t, f, leaves.Leaf(b))
		if got := f.Root(); got != digits(t, c.root) {
			t.Errorf("the root of %d leaves = %x", i+1, got)
		}
	}
}

// P9.3: what is asked changes nothing: asked twice it is the same, and one that was asked at each Add comes to what one comes to that was asked at the end only.
func TestAskedTwice(t *testing.T) {
	for n := range 140 {
		often := fronts.New()
		for _, s := range list(n) {
			for range 2 {
				often.Root()
				often.Sums()
				often.Size()
			}
			add(t, often, s)
		}
		once := grown(t, list(n)...)
		for range 3 {
			stands(t, often, list(n))
			stands(t, once, list(n))
		}
	}
}

// P9.2, P9.3: any sums, asked for at any times.
func TestAny(t *testing.T) {
	random := rand.New(rand.NewSource(9))
	for range 60 {
		f := fronts.New()
		var all []api.Sum
		for range random.Intn(200) {
			var s api.Sum
			random.Read(s[:])
			add(t, f, s)
			all = append(all, s)
			switch random.Intn(12) {
			case 0:
				is(t, "Root", f.Root(), wantedRoot(all))
			case 1:
				stands(t, f, all)
			}
		}
		stands(t, f, all)
	}
}

// R3: a front that is not there, or that no call made, answers ErrNil and zero values, and stays so.
func TestNotThere(t *testing.T) {
	for what, f := range map[string]*fronts.Front{"not there": nil, "zero": {}, "new": new(fronts.Front)} {
		for range 3 {
			if e := f.Add(sum(1)); e != api.ErrNil {
				t.Errorf("%s: Add = %v", what, e)
			}
			if n, l := f.Size(), f.Sums(); n != 0 || len(l) != 0 {
				t.Errorf("%s: Size = %d, Sums = %x", what, n, l)
			}
			is(t, what+": Root", f.Root(), api.Sum{})
		}
	}
}

// R3: what is asked of one that is not there changes none that is.
func TestNotThereBesideOthers(t *testing.T) {
	var none *fronts.Front
	var zero fronts.Front
	f := fronts.New()
	for n, s := range list(40) {
		stands(t, f, list(n))
		none.Add(s)
		zero.Add(s)
		add(t, f, s)
	}
	stands(t, f, list(40))
	stands(t, fronts.New(), nil)
}
