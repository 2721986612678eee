package arena_test

import (
	"math"
	"math/rand"
	"strings"
	"testing"

	"ferryman/api"
	"ferryman/arena"
	"ferryman/bits"
)

func make1(t *testing.T, slot int) *arena.Arena {
	t.Helper()
	a, e := arena.New(slot)
	if e != api.OK || a == nil {
		t.Fatalf("New(%d): %v", slot, e)
	}
	return a
}

func alloc(t *testing.T, a *arena.Arena) api.Handle {
	t.Helper()
	h, e := a.Alloc()
	if e != api.OK {
		t.Fatalf("Alloc: %v", e)
	}
	return h
}

func zeros(n int) string { return strings.Repeat("\x00", n) }

// P4.1, P4.2: a slot is 2 to PageSize bytes; a new arena has no pages.
func TestNew(t *testing.T) {
	for _, slot := range []int{math.MinInt, -1, 0, 1, api.PageSize + 1, 1 << 16, math.MaxInt} {
		if a, e := arena.New(slot); a != nil || e != api.ErrArg {
			t.Errorf("New(%d): %v, %v", slot, a, e)
		}
	}
	for _, slot := range []int{2, 3, 2000, api.PageSize} {
		a := make1(t, slot)
		if a.Slot() != slot || a.Used() != 0 || a.Pages() != 0 {
			t.Errorf("New(%d): %d, %d, %d", slot, a.Slot(), a.Used(), a.Pages())
		}
	}
}

// P4.1, P4.5, P4.6: slots are given page by page; generations are from 1 on.
func TestPageByPage(t *testing.T) {
	for _, slot := range []int{100, 1365, 1366, 2048, 2049, 4096} {
		a, of := make1(t, slot), api.PageSize/slot
		for k := range 3 * of {
			want := bits.Handle(uint16(k/of), uint16(k%of*slot), 1)
			if h := alloc(t, a); h != want {
				t.Fatalf("slots of %d: the %d-th is %d, not %d", slot, k, h, want)
			}
			if a.Used() != k+1 || a.Pages() != k/of+1 {
				t.Fatalf("slots of %d: %d used, %d pages", slot, a.Used(), a.Pages())
			}
		}
	}
}

// P4.1: there are MaxPages pages at most; a page stays, also without a used slot.
func TestFull(t *testing.T) {
	a := make1(t, 3000)
	var l []api.Handle
	for range api.MaxPages {
		l = append(l, alloc(t, a))
	}
	for range 2 {
		if h, e := a.Alloc(); h != 0 || e != api.ErrFull {
			t.Fatal("one more:", h, e)
		}
	}
	if a.Used() != api.MaxPages || a.Pages() != api.MaxPages {
		t.Fatal(a.Used(), a.Pages())
	}
	for _, h := range l {
		if e := a.Free(h); e != api.OK {
			t.Fatal(e)
		}
	}
	if a.Used() != 0 || a.Pages() != api.MaxPages {
		t.Fatal("all given back:", a.Used(), a.Pages())
	}
	if h := alloc(t, a); h != bits.Handle(0, 0, 2) {
		t.Fatal("then:", h)
	}
}

// twin is an arena by the words: what each handle names, and of each slot how often it was given.
type twin struct {
	slot, of int
	pages    [][]uint16 // of each page the slots that were given back
	fresh    []int      // of each page how many slots were used, ever
	gens     map[uint32]uint32
	named    map[api.Handle]string
	most     int
}

func (w *twin) give() api.Handle {
	for n := range len(w.pages) + 1 {
		if n == len(w.pages) {
			w.pages, w.fresh = append(w.pages, nil), append(w.fresh, 0)
		}
		var off uint16
		if k := len(w.pages[n]); k > 0 {
			off, w.pages[n] = w.pages[n][k-1], w.pages[n][:k-1]
		} else if w.fresh[n] < w.of {
			off = uint16(w.fresh[n] * w.slot)
			w.fresh[n]++
		} else {
			continue
		}
		at := uint32(n)<<16 | uint32(off)
		w.gens[at]++
		h := bits.Handle(uint16(n), off, w.gens[at])
		w.named[h] = zeros(w.slot)
		w.most = max(w.most, len(w.named))
		return h
	}
	return 0
}

func (w *twin) back(h api.Handle) {
	n, off, _ := bits.Parts(h)
	delete(w.named, h)
	w.pages[n] = append(w.pages[n], off)
}

func (w *twin) check(t *testing.T, a *arena.Arena, all []api.Handle) {
	t.Helper()
	if a.Used() != len(w.named) || a.Pages() != len(w.pages) || a.Pages() > (w.most+w.of-1)/w.of {
		t.Fatalf("%d used, %d pages, not %d, %d (%d at most, %d a page)", a.Used(), a.Pages(), len(w.named), len(w.pages), w.most, w.of)
	}
	for _, h := range all {
		want, is := w.named[h]
		if s, e := a.Read(h); s != want || is != (e == api.OK) || !is && e != api.ErrNone || a.Is(h) != is {
			t.Fatalf("Read(%d): %q, %v, not %q", h, s, e, want)
		}
	}
}

// P4.1, P4.3 to P4.6: whatever is given, written, given back.
func TestWhatever(t *testing.T) {
	for seed, slot := range []int{2000, 1000, 300, 4000} {
		r := rand.New(rand.NewSource(int64(seed)))
		a := make1(t, slot)
		w := &twin{slot: slot, of: api.PageSize / slot, gens: map[uint32]uint32{}, named: map[api.Handle]string{}}
		var all []api.Handle
		told := map[api.Handle]int{}
		for step := range 1500 {
			var h api.Handle
			if len(all) > 0 {
				h = all[r.Intn(len(all))]
				if r.Intn(3) > 0 {
					h = all[max(0, len(all)-1-r.Intn(20))]
				}
			}
			_, is := w.named[h]
			switch k := r.Intn(5); {
			case k < 2 && len(w.named) < 40:
				want := w.give()
				if got := alloc(t, a); got != want {
					t.Fatalf("slots of %d: given %x, not %x", slot, got, want)
				}
				if told[want]++; told[want] > 1 || want == 0 {
					t.Fatalf("%x was told twice, or is 0", want)
				}
				all = append(all, want)
			case k == 2:
				if e := a.Free(h); is != (e == api.OK) || !is && e != api.ErrNone {
					t.Fatalf("Free(%x): %v", h, e)
				}
				if is {
					w.back(h)
				}
			case k > 2:
				s := strings.Repeat(string(rune('a'+r.Intn(26))), r.Intn(slot+10))
				e := a.Write(h, s)
				switch {
				case !is && e != api.ErrNone, is && len(s) > slot && e != api.ErrTooLarge, is && len(s) <= slot && e != api.OK:
					t.Fatalf("Write(%x, %d bytes): %v", h, len(s), e)
				case is && len(s) <= slot:
					w.named[h] = s + zeros(slot-len(s))
				}
			}
			if step%50 == 0 {
				w.check(t, a, all)
			}
		}
		w.check(t, a, all)
	}
}

// P4.6: the slot that alone was given back is given again, one generation on.
func TestTheSameSlot(t *testing.T) {
	a := make1(t, 1000)
	var l []api.Handle
	for range 11 {
		l = append(l, alloc(t, a))
	}
	for k, h := range l {
		page, off, gen := bits.Parts(h)
		for range 5 {
			if e := a.Free(bits.Handle(page, off, gen)); e != api.OK {
				t.Fatal(k, e)
			}
			gen++
			if got := alloc(t, a); got != bits.Handle(page, off, gen) {
				t.Fatalf("%d: %x, not %x", k, got, bits.Handle(page, off, gen))
			}
		}
	}
}

// P4.1, P4.3: what names nothing; errors in their row.
func TestErrors(t *testing.T) {
	a := make1(t, 2000)
	long := strings.Repeat("x", 2001)
	none := func(h api.Handle) {
		t.Helper()
		if a.Is(h) {
			t.Errorf("Is(%x)", h)
		}
		if e := a.Free(h); e != api.ErrNone {
			t.Errorf("Free(%x): %v", h, e)
		}
		if s, e := a.Read(h); s != "" || e != api.ErrNone {
			t.Errorf("Read(%x): %q, %v", h, s, e)
		}
		if e := a.Write(h, long); e != api.ErrNone {
			t.Errorf("Write(%x): %v", h, e)
		}
	}
	none(0)
	none(bits.Handle(0, 0, 1))
	h := alloc(t, a)
	for _, x := range []api.Handle{0, h + 1, h - 1, bits.Handle(1, 0, 1), bits.Handle(0, 2000, 1), bits.Handle(0, 1, 1), bits.Handle(4096, 0, 1), bits.Handle(65535, 65535, 1<<32-1), bits.Handle(0, 0, 0)} {
		none(x)
	}
	if e := a.Write(h, long); e != api.ErrTooLarge {
		t.Error(e)
	}
	if s, e := a.Read(h); s != zeros(2000) || e != api.OK {
		t.Error("a Write that was refused wrote")
	}
	if e := a.Write(h, long[:2000]); e != api.OK {
		t.Error(e)
	}
	a.Free(h)
	none(h)
	k := alloc(t, a)
	none(h)
	if s, e := a.Read(k); s != zeros(2000) || e != api.OK {
		t.Error("given anew, it is not all 00")
	}
	if e := a.Free(h); e != api.ErrNone || !a.Is(k) {
		t.Error("by an old handle the new one's slot was given back")
	}
}

// R1: of nil.
func TestNil(t *testing.T) {
	var a *arena.Arena
	if h, e := a.Alloc(); h != 0 || e != api.ErrNil {
		t.Error("Alloc:", h, e)
	}
	if e := a.Free(0); e != api.ErrNil {
		t.Error("Free:", e)
	}
	if s, e := a.Read(0); s != "" || e != api.ErrNil {
		t.Error("Read:", s, e)
	}
	if e := a.Write(0, ""); e != api.ErrNil {
		t.Error("Write:", e)
	}
	if a.Is(0) || a.Used() != 0 || a.Pages() != 0 || a.Slot() != 0 || a.Copy() != nil {
		t.Error("Is, Used, Pages, Slot, Copy")
	}
}

// P4.7: what is done to the one is not seen by the other.
func TestCopies(t *testing.T) {
	make2 := func() (*arena.Arena, []api.Handle) {
		a := make1(t, 2000)
		l := []api.Handle{alloc(t, a), alloc(t, a), alloc(t, a)}
		a.Write(l[0], "one")
		a.Free(l[1])
		return a, l
	}
	for turn := range 2 {
		a, l := make2()
		b := a.Copy()
		if turn == 1 {
			a, b = b, a
		}
		a.Write(l[0], "two")
		a.Free(l[2])
		for range 6 {
			alloc(t, a)
		}
		if s, _ := b.Read(l[0]); s != "one"+zeros(1997) {
			t.Errorf("%q", s[:4])
		}
		if b.Used() != 2 || b.Pages() != 2 || !b.Is(l[2]) || b.Is(l[1]) || b.Slot() != 2000 {
			t.Error(b.Used(), b.Pages())
		}
		if h := alloc(t, b); h != bits.Handle(0, 2000, 2) {
			t.Errorf("%x", h)
		}
		if h := alloc(t, b); h != bits.Handle(1, 2000, 1) {
			t.Errorf("%x", h)
		}
	}
}

func TestExamples(t *testing.T) {
	a := make1(t, 2000)
	first := alloc(t, a)
	if second, third := alloc(t, a), alloc(t, a); first != bits.Handle(0, 0, 1) || second != bits.Handle(0, 2000, 1) || third != bits.Handle(1, 0, 1) {
		t.Error(first, second, third)
	}
	a.Free(first)
	again := alloc(t, a)
	if again != bits.Handle(0, 0, 2) {
		t.Error(again)
	}
	if _, e := a.Read(first); e != api.ErrNone {
		t.Error(e)
	}
	a.Write(again, "ab")
	if s, e := a.Read(again); e != api.OK || s != "ab"+zeros(1998) {
		t.Error(e)
	}
	if a.Used() != 3 || a.Pages() != 2 {
		t.Error(a.Used(), a.Pages())
	}
}
