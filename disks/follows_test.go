package disks_test

import (
	"math/rand"
	"testing"

	"almoner/api"
	"almoner/disks"
)

// written is a write that waits, as the document's words have it.
type written struct {
	n     int
	whole [64]byte
}

// words is a disk by the document's words, looked up write by write.
type words struct {
	sure  map[int][64]byte
	waits []written
	lets  int
	blown bool
}

// byWords is a new one.
func byWords() *words { return &words{sure: map[int][64]byte{}, lets: -1} }

// settled is what is sure, and those of the writes behind it that are kept.
func (w *words) settled(kept func(place int) bool) map[int][64]byte {
	out := map[int][64]byte{}
	for n, whole := range w.sure {
		out[n] = whole
	}
	for place, x := range w.waits {
		if kept(place) {
			out[x.n] = x.whole
		}
	}
	return out
}

// call is whether one more call is let be.
func (w *words) call() api.Errno {
	if w.blown || w.lets == 0 {
		w.blown = true
		return api.ErrState
	}
	if w.lets > 0 {
		w.lets--
	}
	return api.OK
}

func (w *words) write(n int, b []byte) api.Errno {
	e := w.call()
	if e == api.OK {
		w.waits = append(w.waits, written{n, [64]byte(filled(b))})
	}
	return e
}

func (w *words) sync() api.Errno {
	e := w.call()
	if e == api.OK {
		w.sure, w.waits = w.settled(every), nil
	}
	return e
}

func (w *words) turn(n, at int, by byte) api.Errno {
	if w.blown {
		return api.ErrState
	}
	w.sure, w.waits = w.settled(every), nil
	whole := w.sure[n]
	whole[at] ^= by
	w.sure[n] = whole
	return api.OK
}

func every(int) bool { return true }

func no(int) bool { return false }

// holds fails the test if what is read of d isn't what stands there.
func holds(t *testing.T, d *disks.Disk, want map[int][64]byte) {
	t.Helper()
	for n := range d.Len() {
		whole := want[n]
		reads(t, d, n, whole[:])
	}
}

// agrees fails the test if d isn't as the words have it; that all that is kept leaves what is read, and none what is sure, is P5.7's.
func (w *words) agrees(t *testing.T, d *disks.Disk, sectors int, some []bool) {
	t.Helper()
	is(t, d, sectors, len(w.waits), w.blown)
	holds(t, d, w.settled(every))
	holds(t, failed(t, d), w.settled(no))
	kept := make([]bool, len(w.waits))
	for i := range kept {
		kept[i] = true
	}
	holds(t, failed(t, d, kept...), w.settled(every))
	holds(t, failed(t, d, some...), w.settled(func(place int) bool { return place < len(some) && some[place] }))
}

// step does one thing to both, of any kind.
func step(t *testing.T, random *rand.Rand, d *disks.Disk, w *words) {
	t.Helper()
	n := random.Intn(d.Len())
	switch random.Intn(12) {
	case 0, 1:
		answers(t, "Sync", d.Sync(), w.sync())
	case 2:
		at, by := random.Intn(64), byte(random.Intn(256))
		answers(t, "Turn", d.Turn(n, at, by), w.turn(n, at, by))
	case 3:
		w.lets, w.blown = random.Intn(8)-1, false
		answers(t, "Fuse", d.Fuse(w.lets), api.OK)
	case 4:
		answers(t, "Write of too much", d.Write(n, text(1, 65)), api.ErrArg)
		answers(t, "Turn of no byte", d.Turn(n, 64, 1), api.ErrArg)
	default:
		b := make([]byte, random.Intn(65))
		random.Read(b)
		answers(t, "Write", d.Write(n, b), w.write(n, b))
	}
}

// P5.7, and all others: any calls, in any order, come to what the words say; and so do they on what is left of it.
func TestAnyCalls(t *testing.T) {
	random := rand.New(rand.NewSource(5))
	for range 150 {
		sectors := 1 + random.Intn(5)
		d, w := made(t, sectors), byWords()
		for range 60 {
			step(t, random, d, w)
			some := keptOf(random.Intn(1<<20), random.Intn(20))
			w.agrees(t, d, sectors, some)
			if random.Intn(15) == 0 {
				d = failed(t, d, some...)
				w = &words{sure: w.settled(func(place int) bool { return place < len(some) && some[place] }), lets: -1}
				w.agrees(t, d, sectors, some)
			}
		}
	}
}

// P5.7: what is sure stays, however often it fails, whatever waits for the same sectors meanwhile.
func TestSureStays(t *testing.T) {
	d := made(t, 3)
	for n := range 3 {
		answers(t, "Write", d.Write(n, text(byte(n), 64-n)), api.OK)
	}
	answers(t, "Sync", d.Sync(), api.OK)
	for i := range 50 {
		answers(t, "Write", d.Write(i%3, text(byte(i), i)), api.OK)
		d = failed(t, d)
		for n := range 3 {
			reads(t, d, n, text(byte(n), 64-n))
		}
	}
}

// P5.7: with all kept there is left what is read; kept again and again, that stays, too.
func TestAllKept(t *testing.T) {
	d := waiting(t)
	for range 20 {
		d = failed(t, d, true, true, true, true, true, true)
		is(t, d, 3, 0, false)
		reads(t, d, 0, text(30, 30))
		reads(t, d, 1, text(40, 20))
		reads(t, d, 2, text(20, 40))
	}
}

// P5.7: of calls that may be just the first ones are let be, as many as the fuse lets be: what is left is what these would have come to alone.
func TestFirstCallsAlone(t *testing.T) {
	calls := []func(*disks.Disk) api.Errno{
		func(d *disks.Disk) api.Errno { return d.Write(0, text(1, 20)) },
		func(d *disks.Disk) api.Errno { return d.Write(1, text(2, 64)) },
		func(d *disks.Disk) api.Errno { return d.Write(0, text(3, 10)) },
		func(d *disks.Disk) api.Errno { return d.Sync() },
		func(d *disks.Disk) api.Errno { return d.Write(1, nil) },
		func(d *disks.Disk) api.Errno { return d.Sync() },
		func(d *disks.Disk) api.Errno { return d.Write(0, text(4, 64)) },
	}
	for fuse := range len(calls) + 2 {
		d, alone := made(t, 2), made(t, 2)
		answers(t, "Fuse", d.Fuse(fuse), api.OK)
		for i, call := range calls {
			want := api.ErrState
			if i < fuse {
				want = api.OK
				answers(t, "a call", call(alone), want)
			}
			answers(t, "a call", call(d), want)
			answers(t, "a call that may not be", d.Write(0, text(5, 65)), api.ErrArg)
		}
		is(t, d, 2, alone.Waits(), fuse < len(calls))
		for bits := range 8 {
			kept := keptOf(bits, 3)
			for n := range 2 {
				want, _ := failed(t, alone, kept...).Read(n)
				reads(t, failed(t, d, kept...), n, want)
			}
		}
	}
}
