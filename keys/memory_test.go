package keys_test

import (
	"bytes"
	"slices"
	"sync"
	"testing"

	"almoner/api"
	"almoner/keys"
)

// spare is so many bytes with spare room behind them, so that a call that writes into it is seen.
func spare(n int) []byte { return row(n + 200)[:n] }

// overwrite changes all of b, its spare room too.
func overwrite(b []byte) {
	for i := range b[:cap(b)] {
		b[:cap(b)][i] ^= 0x5a
	}
}

// R4: what is handed in is not changed, its spare room neither.
func TestHandedInStays(t *testing.T) {
	k, l := sum(1), sum(2)
	for _, n := range append([]int{0}, lengths...) {
		v := spare(n)
		before := slices.Clone(v[:cap(v)])
		keys.Value(k, v)
		if !bytes.Equal(v[:cap(v)], before) {
			t.Errorf("Value of %d bytes: what was handed in is another one", n)
		}
	}
	keys.Side(k, l)
	keys.Bit(k, 3)
	if k != sum(1) || l != sum(2) {
		t.Error("a key or a sum that was handed in is another one")
	}
}

// R4: bytes that share memory with the key, or with what stands behind them, are neither changed nor taken for more than they are.
func TestSharedMemory(t *testing.T) {
	k := sum(1)
	is(t, "Value of the key's own bytes", keys.Value(k, k[:]), wantedValue(k, slices.Clone(k[:])))
	is(t, "Value of some of them", keys.Value(k, k[3:9]), wantedValue(k, slices.Clone(k[3:9])))
	is(t, "the key", k, sum(1))
	for _, n := range append([]int{0}, lengths...) {
		is(t, "Value with spare room", keys.Value(k, spare(n)), wantedValue(k, row(n)))
	}
}

// R4: an answer is memory of its own: it stays, whatever becomes of what was handed in or of another answer.
func TestAnswersAreNew(t *testing.T) {
	k, empty := sum(1), wantedEmpty()
	for _, n := range append([]int{0}, lengths...) {
		v := spare(n)
		value, other := keys.Value(k, v), keys.Value(k, v)
		overwrite(other[:])
		is(t, "Value once more", keys.Value(k, v), wantedValue(k, row(n)))
		overwrite(v)
		is(t, "Value behind that", value, wantedValue(k, row(n)))
	}
	for _, depth := range []int{-1, 0, 1, 128, 255, 256, 300} {
		got := keys.Empty(depth)
		overwrite(got[:])
		is(t, "Empty once more", keys.Empty(depth), empty[min(max(depth, 0), 256)])
	}
	key, side := keys.Of(5, 1), keys.Side(k, k)
	overwrite(key[:])
	overwrite(side[:])
	is(t, "Of once more", keys.Of(5, 1), wantedKey(5, 1))
	is(t, "Side once more", keys.Side(k, k), wantedSide(k, k))
}

// R4, R5: what was handed in is not kept: the next sum is of what is there by then, and of nothing that was asked before.
func TestNothingIsKept(t *testing.T) {
	k, v := sum(1), spare(100)
	for range 5 {
		is(t, "Value", keys.Value(k, v), wantedValue(k, v))
		is(t, "Side", keys.Side(k, k), wantedSide(k, k))
		overwrite(v)
		overwrite(k[:])
		v = v[:len(v)-1]
	}
	is(t, "Value(none)", keys.Value(k, v[:0]), wantedValue(k, nil))
	is(t, "Empty(256)", keys.Empty(256), wantedValue(k, nil))
	is(t, "Of(0, 0)", keys.Of(0, 0), wantedKey(0, 0))
}

// R5: sums that are worked out at the same time, of the same memory, are those that are worked out one by one.
func TestAtTheSameTime(t *testing.T) {
	v, empty := row(3000), wantedEmpty()
	var key, value, side, none [8]api.Sum
	var bits [8]int
	var group sync.WaitGroup
	for i := range key {
		group.Go(func() {
			k := sum(i)
			key[i], value[i], side[i] = keys.Of(uint32(i), i), keys.Value(k, v[i:]), keys.Side(k, sum(0))
			none[i], bits[i] = keys.Empty(i*30), keys.Bit(k, i*30)
		})
	}
	group.Wait()
	for i := range key {
		is(t, "Of", key[i], wantedKey(uint32(i), i))
		is(t, "Value", value[i], wantedValue(sum(i), v[i:]))
		is(t, "Side", side[i], wantedSide(sum(i), sum(0)))
		is(t, "Empty", none[i], empty[i*30])
		if want := int(text(sum(i))[i*30] - '0'); bits[i] != want {
			t.Errorf("Bit(%x, %d) = %d", sum(i), i*30, bits[i])
		}
	}
}
