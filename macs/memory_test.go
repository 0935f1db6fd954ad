package macs_test

import (
	"bytes"
	"slices"
	"sync"
	"testing"

	"almoner/api"
	"almoner/macs"
)

// spare is so many bytes with spare room behind them, so that a call that writes into it is seen.
func spare(n int) []byte { return row(n + 200)[:n] }

// overwrite changes all of b, its spare room too.
func overwrite(b []byte) {
	for i := range b[:cap(b)] {
		b[:cap(b)][i] ^= 0x5a
	}
}

// spareParts is parts with spare room, in a list that has some itself.
func spareParts(n int) [][]byte {
	return [][]byte{spare(n), spare(0), spare(n + 1), spare(3), spare(40)}[:3]
}

// R4: what is handed in is not changed: the key, each part, the list of parts, and the spare room of each.
func TestHandedInStays(t *testing.T) {
	for _, n := range keySizes {
		for _, m := range sizes {
			key, parts := spare(n), spareParts(m)
			keyBefore := slices.Clone(key[:cap(key)])
			listBefore := slices.Clone(parts[:cap(parts)])
			var bytesBefore [][]byte
			for _, part := range listBefore {
				bytesBefore = append(bytesBefore, slices.Clone(part[:cap(part)]))
			}
			macs.Of(key, parts...)
			if !bytes.Equal(key[:cap(key)], keyBefore) {
				t.Fatalf("the key of %d bytes is another one", n)
			}
			for i, part := range parts[:cap(parts)] {
				if len(part) != len(listBefore[i]) || cap(part) != cap(listBefore[i]) || &part[:1][0] != &listBefore[i][:1][0] {
					t.Fatalf("in the list of parts, item %d is another one", i)
				}
				if !bytes.Equal(part[:cap(part)], bytesBefore[i]) {
					t.Fatalf("part %d has other bytes", i)
				}
			}
		}
	}
}

// R4: the spare room of what is handed in is not a part of it, that of the list of parts neither.
func TestSpareRoomIsNoPart(t *testing.T) {
	for _, n := range keySizes {
		for _, m := range sizes {
			if macs.Of(spare(n), spareParts(m)...) != wanted(row(n), row(m), nil, row(m+1)) {
				t.Errorf("a key of %d bytes, parts of some %d, with spare room: another sum", n, m)
			}
		}
	}
}

// R4: what was handed in is not kept: whatever becomes of it later, an answer stays, and the next one is of what is there by then.
func TestKeptByContent(t *testing.T) {
	for _, n := range keySizes {
		key, parts := spare(n), spareParts(n)
		first := macs.Of(key, parts...)
		want := wanted(key, parts...)
		overwrite(key)
		for _, part := range parts {
			overwrite(part)
		}
		if first != want {
			t.Errorf("a key of %d bytes: the answer is another one", n)
		}
		hold(t, key, parts...)
		parts[0], parts[1] = row(12), row(13)
		hold(t, key, parts...)
	}
}

// R4: one list may be handed in as the key and as each part, or as pieces that lie across each other.
func TestSharedLists(t *testing.T) {
	for _, n := range keySizes {
		b := row(n)
		hold(t, b, b, b)
		hold(t, b[:n/2], b, b[n/3:], b[:n/3])
	}
}

// R4: an answer that is written into changes no other one; sums that Same is handed stay as they are.
func TestAnswersAreNew(t *testing.T) {
	for _, n := range keySizes {
		key, text := row(n), row(20)
		first, second := macs.Of(key, text), macs.Of(key, text)
		overwrite(first[:])
		if second != wanted(key, text) || macs.Of(key, text) != second {
			t.Errorf("a key of %d bytes: an answer shares memory", n)
		}
		a, b := first, second
		macs.Same(a, b)
		if a != first || b != second {
			t.Error("Same changes what it is handed")
		}
	}
}

// R5: a sum hangs on nothing that was asked before, or is asked at the same time.
func TestAtTheSameTime(t *testing.T) {
	key, text := row(100), row(500)
	var got [8]api.Sum
	var group sync.WaitGroup
	for i := range got {
		group.Go(func() {
			for j := range 50 {
				macs.Of(key[:j+i], text[j:])
			}
			got[i] = macs.Of(key[i:], text[:60*i], text[60*i:])
		})
	}
	group.Wait()
	for i := range got {
		if got[i] != wanted(key[i:], text) {
			t.Errorf("sum %d is another one", i)
		}
	}
}
