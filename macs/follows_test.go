package macs_test

import (
	"crypto/sha256"
	"encoding"
	"slices"
	"testing"

	"almoner/api"
	"almoner/macs"
)

// state is what the library keeps behind a block: the block itself can't be told from it.
func state(t *testing.T, block []byte) []byte {
	t.Helper()
	library := sha256.New()
	library.Write(block)
	kept, err := library.(encoding.BinaryMarshaler).MarshalBinary()
	if err != nil {
		t.Fatal(err)
	}
	return kept
}

// goneOn is the sum of a block, of which its state alone is known, and of more.
func goneOn(t *testing.T, state, more []byte) api.Sum {
	t.Helper()
	library := sha256.New()
	if err := library.(encoding.BinaryUnmarshaler).UnmarshalBinary(state); err != nil {
		t.Fatal(err)
	}
	library.Write(more)
	return api.Sum(library.Sum(nil))
}

// crossed is the sum of what stands behind one block, behind another block.
func crossed(t *testing.T, inner, outer, text []byte) api.Sum {
	t.Helper()
	sum := goneOn(t, inner, text)
	return goneOn(t, outer, sum[:])
}

// P3.3: by the states behind a key's two blocks the sums of that key are known, and, the blocks the other way round, those of the key that is taken against 106.
func TestKnownByBlocks(t *testing.T) {
	for _, n := range keySizes {
		key := keyBlock(row(n))
		other := against(key, 106)
		inner, outer := state(t, against(key, 54)), state(t, against(key, 92))
		for _, m := range sizes {
			text := row(m)
			if got, want := macs.Of(key, text), crossed(t, inner, outer, text); got != want {
				t.Errorf("Of(block of a key of %d bytes, %d bytes) = %x, not %x", n, m, got, want)
			}
			if got, want := macs.Of(other, text), crossed(t, outer, inner, text); got != want {
				t.Errorf("Of(the other one's, %d bytes) = %x, not %x", m, got, want)
			}
		}
	}
}

// P3.3: so it is of any key that has that block, and of each byte of it: keys of one bit, and of noughts.
func TestKnownByBlocksOfEachByte(t *testing.T) {
	text := []byte("text")
	for i := range 65 {
		key := make([]byte, 64)
		if i < 64 {
			key[i] = 128
		}
		inner, outer := state(t, against(key, 54)), state(t, against(key, 92))
		if macs.Of(key[:min(i+1, 64)], text) != crossed(t, inner, outer, text) || macs.Of(against(key, 106), text) != crossed(t, outer, inner, text) {
			t.Errorf("a key whose byte %d is 128: not known by its blocks", i)
		}
	}
}

// P3.3: the other way, too: the other one of the other one is the key itself.
func TestOtherWay(t *testing.T) {
	key, text := row(64), row(50)
	other := against(key, 106)
	if macs.Of(key, text) == macs.Of(other, text) {
		t.Error("both keys have one sum")
	}
	if macs.Of(against(other, 106), text) != macs.Of(key, text) {
		t.Error("taken twice, another sum")
	}
}

// P3.3: of a key of 64 bytes alone: a shorter one's noughts are taken against nothing, and a longer one is as its sum.
func TestOtherLengths(t *testing.T) {
	text := row(50)
	for _, n := range []int{0, 1, 32, 63, 64, 65, 128} {
		block := keyBlock(row(n))
		inner, outer := state(t, against(block, 54)), state(t, against(block, 92))
		got := macs.Of(against(row(n), 106), text)
		if known := got == crossed(t, outer, inner, text); known != (n == 64) {
			t.Errorf("a key of %d bytes, each against 106: known by the other one's blocks is %t", n, known)
		}
	}
}

// P3.3: another number than 106 doesn't do.
func TestOtherNumbers(t *testing.T) {
	key, text := row(64), row(50)
	inner, outer := state(t, against(key, 54)), state(t, against(key, 92))
	want := crossed(t, outer, inner, text)
	var found []int
	for mask := range 256 {
		if macs.Of(against(key, byte(mask)), text) == want {
			found = append(found, mask)
		}
	}
	if !slices.Equal(found, []int{106}) {
		t.Errorf("taken against %v, not 106 alone", found)
	}
}
