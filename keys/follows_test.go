package keys_test

import (
	"fmt"
	"math"
	"slices"
	"testing"

	"almoner/api"
	"almoner/keys"
)

// parts is the first depth at which two keys part: 256 if they part at none.
func parts(a, b api.Sum) int {
	for depth := range 256 {
		if keys.Bit(a, depth) != keys.Bit(b, depth) {
			return depth
		}
	}
	return 256
}

// turned is a key whose bit at a depth is another one.
func turned(t *testing.T, k api.Sum, depth int) api.Sum {
	t.Helper()
	for i, d := range one(t, depth) {
		k[i] ^= d
	}
	return k
}

// P14.4: keys that are unlike in one bit part there, the first depth, the last one and each in the midst, and nowhere else.
func TestUnlikeInOneBit(t *testing.T) {
	for _, k := range []api.Sum{{}, filled(255), filled(0x5a), sum(1), keys.Of(3, 1)} {
		for depth := range 256 {
			other := turned(t, k, depth)
			if got := parts(k, other); got != depth {
				t.Errorf("%x and %x part at %d, not at %d", k, other, got, depth)
			}
			for behind := depth + 1; behind < 256; behind++ {
				if keys.Bit(k, behind) != keys.Bit(other, behind) {
					t.Errorf("%x and %x part at %d, too", k, other, behind)
				}
			}
		}
	}
}

// P14.4: keys that are unlike in many bits part at the first of them.
func TestUnlikeInMany(t *testing.T) {
	for n := range 10 {
		k := sum(n)
		for depth := range 256 {
			other := turned(t, k, depth)
			for behind := depth + 1; behind < 256; behind += 1 + n%5 {
				other = turned(t, other, behind)
			}
			if got := parts(k, other); got != depth {
				t.Errorf("%x and %x part at %d, not at %d", k, other, got, depth)
			}
		}
	}
}

// P14.4: any two keys part if, and only if, they are unlike.
func TestPartIfUnlike(t *testing.T) {
	all := []api.Sum{{}, filled(255), {128}, {1}, {31: 1}, {31: 128}}
	for n := range 40 {
		all = append(all, sum(n))
	}
	for _, tenant := range tenants {
		for resource := range api.Resources {
			all = append(all, keys.Of(tenant, resource))
		}
	}
	for _, a := range all {
		for _, b := range all {
			got := parts(a, b)
			if (got == 256) != (a == b) {
				t.Errorf("%x and %x part at %d", a, b, got)
			}
			first := 0
			for first < 256 && text(a)[first] == text(b)[first] {
				first++
			}
			if got != first {
				t.Errorf("%x and %x part at %d, not at %d", a, b, got, first)
			}
		}
	}
}

// P14.4: so each key is told by its bits: to which side of each depth it lies.
func TestToldByBits(t *testing.T) {
	for n := range 50 {
		var again api.Sum
		for depth := range 256 {
			if keys.Bit(sum(n), depth) == 1 {
				again = turned(t, again, depth)
			}
		}
		is(t, "the key of the bits", again, sum(n))
	}
}

// P14.4: what stands at a key isn't summed up as two sides are, though the bytes be those of both sums, with a side's mark, or without.
func TestValueIsNoSide(t *testing.T) {
	sides := []api.Sum{{}, filled(255), filled(3), filled(4), {4}, {3}, sum(1), sum(2), keys.Empty(256), keys.Empty(200)}
	seen := map[api.Sum]string{}
	for _, l := range sides {
		for _, r := range sides {
			seen[keys.Side(l, r)] = fmt.Sprintf("the sides %x, %x", l, r)
		}
	}
	for _, l := range sides {
		for _, r := range sides {
			for _, v := range [][]byte{r[:], slices.Concat(l[:], r[:]), slices.Concat([]byte{4}, l[:], r[:]), slices.Concat([]byte{3}, l[:], r[:]), r[1:], r[:31]} {
				if side, is := seen[keys.Value(l, v)]; is {
					t.Errorf("%x at %x is summed up as %s", v, l, side)
				}
			}
		}
	}
}

// P14.4: of any bytes at all, what stands at a key isn't summed up as nothing, at any depth.
func TestValueIsNotNothing(t *testing.T) {
	empty := map[api.Sum]int{}
	for depth := range 257 {
		empty[keys.Empty(depth)] = depth
	}
	last, side := keys.Empty(256), keys.Empty(255)
	values := [][]byte{{0}, {2}, {3}, {4}, {255}, last[:], side[:], slices.Concat([]byte{4}, last[:], last[:]), make([]byte, 32), make([]byte, 64)}
	for _, n := range lengths {
		values = append(values, row(n), make([]byte, n))
	}
	for _, k := range []api.Sum{{}, {2}, {4}, filled(2), filled(255), last, side, sum(1), keys.Of(math.MaxUint32, 2)} {
		for _, v := range values {
			if depth, is := empty[keys.Value(k, v)]; is {
				t.Errorf("%d bytes at %x are summed up as nothing at %d", len(v), k, depth)
			}
		}
		if keys.Value(k, nil) != last {
			t.Errorf("none at %x are not summed up as nothing", k)
		}
	}
}
