package page_test

import (
	"math"
	"math/rand"
	"strings"
	"testing"

	"ferryman/api"
	"ferryman/page"
)

var slots = []int{2, 3, 4, 7, 100, 283, 1000, 1365, 1366, 2047, 2048, 2049, 4095, 4096}

func make1(t *testing.T, slot int) *page.Page {
	t.Helper()
	p, e := page.New(slot)
	if e != api.OK || p == nil {
		t.Fatalf("New(%d): %v", slot, e)
	}
	return p
}

func alloc(t *testing.T, p *page.Page) uint16 {
	t.Helper()
	off, e := p.Alloc()
	if e != api.OK {
		t.Fatalf("Alloc: %v", e)
	}
	return off
}

// P3.1: a slot is 2 to PageSize bytes.
func TestNew(t *testing.T) {
	for _, slot := range []int{math.MinInt, -1, 0, 1, api.PageSize + 1, 65536, 65538, math.MaxInt} {
		if p, e := page.New(slot); p != nil || e != api.ErrArg {
			t.Errorf("New(%d): %v, %v", slot, p, e)
		}
	}
	for _, slot := range slots {
		p := make1(t, slot)
		if p.Used() != 0 || p.Room() != api.PageSize/slot {
			t.Errorf("New(%d): used %d, room %d", slot, p.Used(), p.Room())
		}
	}
}

// P3.1, P3.4, P3.6: of a fresh page the k-th slot is at k times the length; then it is full.
func TestInRow(t *testing.T) {
	for _, slot := range slots {
		p := make1(t, slot)
		for k := range api.PageSize / slot {
			off := alloc(t, p)
			if int(off) != k*slot {
				t.Fatalf("slots of %d: the %d-th is at %d", slot, k, off)
			}
			if s, e := p.Read(off); e != api.OK || s != strings.Repeat("\x00", slot) {
				t.Fatalf("slots of %d: %q, %v", slot, s, e)
			}
			if p.Used() != k+1 || p.Used()+p.Room() != api.PageSize/slot {
				t.Fatalf("slots of %d: used %d, room %d", slot, p.Used(), p.Room())
			}
		}
		for range 2 {
			if off, e := p.Alloc(); off != 0 || e != api.ErrFull {
				t.Fatalf("slots of %d: one more: %d, %v", slot, off, e)
			}
		}
		if p.Used() != api.PageSize/slot || p.Room() != 0 {
			t.Fatalf("slots of %d: used %d, room %d", slot, p.Used(), p.Room())
		}
	}
}

// P3.5: what was given back is told again, the last one first, all 00.
func TestTheLastFirst(t *testing.T) {
	r := rand.New(rand.NewSource(1))
	for _, slot := range []int{2, 3, 5, 64, 1000} {
		p := make1(t, slot)
		var l []uint16
		for range min(api.PageSize/slot-1, 50) {
			off := alloc(t, p)
			p.Write(off, strings.Repeat("\xff", slot))
			l = append(l, off)
		}
		r.Shuffle(len(l), func(i, k int) { l[i], l[k] = l[k], l[i] })
		gone := l[:len(l)/2]
		for _, off := range gone {
			if e := p.Free(off); e != api.OK || p.Is(off) {
				t.Fatalf("Free(%d): %v", off, e)
			}
		}
		for i := len(gone) - 1; i >= 0; i-- {
			off := alloc(t, p)
			if off != gone[i] {
				t.Fatalf("slots of %d: %d, not %d", slot, off, gone[i])
			}
			if s, _ := p.Read(off); s != strings.Repeat("\x00", slot) {
				t.Fatalf("slots of %d: %d is %q", slot, off, s)
			}
		}
		if off := alloc(t, p); int(off) != len(l)*slot {
			t.Fatalf("slots of %d: then %d, not the first that never was used", slot, off)
		}
	}
}

// twin is a page by the words: lists, and texts.
type twin struct {
	slot, fresh int
	back        []uint16
	used        map[uint16]string
}

func (w *twin) next() (uint16, bool) {
	if n := len(w.back); n > 0 {
		off := w.back[n-1]
		w.back = w.back[:n-1]
		return off, true
	}
	if w.fresh+w.slot > api.PageSize {
		return 0, false
	}
	w.fresh += w.slot
	return uint16(w.fresh - w.slot), true
}

func (w *twin) check(t *testing.T, p *page.Page) {
	t.Helper()
	if p.Used() != len(w.used) || p.Room() != api.PageSize/w.slot-len(w.used) {
		t.Fatalf("used %d, room %d; %d are", p.Used(), p.Room(), len(w.used))
	}
	for off := range min(w.fresh+3*w.slot, 1<<16) {
		want, is := w.used[uint16(off)]
		if p.Is(uint16(off)) != is {
			t.Fatalf("Is(%d): %v", off, !is)
		}
		if s, e := p.Read(uint16(off)); s != want || is != (e == api.OK) || !is && e != api.ErrNone {
			t.Fatalf("Read(%d): %q, %v, not %q", off, s, e, want)
		}
	}
}

// P3.1, P3.3, P3.4: whatever is done to slots, others stay.
func TestApart(t *testing.T) {
	r := rand.New(rand.NewSource(2))
	for _, slot := range []int{2, 5, 300, 1400} {
		p, w := make1(t, slot), &twin{slot: slot, used: map[uint16]string{}}
		for range 3000 {
			var some []uint16
			for k := 0; k < w.fresh; k += slot {
				some = append(some, uint16(k))
			}
			off := uint16(r.Intn(api.PageSize + 3*slot))
			if len(some) > 0 && r.Intn(8) > 0 {
				off = some[r.Intn(len(some))]
			}
			_, is := w.used[off]
			switch k := r.Intn(4); {
			case k == 0 && len(w.used) < 40:
				got, e := p.Alloc()
				want, room := w.next()
				if got != want || room != (e == api.OK) || !room && e != api.ErrFull {
					t.Fatalf("Alloc: %d, %v, not %d", got, e, want)
				}
				if room {
					w.used[want] = strings.Repeat("\x00", slot)
				}
			case k == 1:
				if e := p.Free(off); is != (e == api.OK) || !is && e != api.ErrNone {
					t.Fatalf("Free(%d): %v", off, e)
				}
				if is {
					delete(w.used, off)
					w.back = append(w.back, off)
				}
			case k >= 2:
				s := strings.Repeat(string(rune('a'+r.Intn(26))), r.Intn(slot+2))
				e := p.Write(off, s)
				switch {
				case !is && e != api.ErrNone, is && len(s) > slot && e != api.ErrTooLarge, is && len(s) <= slot && e != api.OK:
					t.Fatalf("Write(%d, %d bytes): %v", off, len(s), e)
				case is && len(s) <= slot:
					w.used[off] = s + strings.Repeat("\x00", slot-len(s))
				}
			}
		}
		w.check(t, p)
	}
}

// P3.1: errors, in their row.
func TestErrors(t *testing.T) {
	p := make1(t, 1000)
	off := alloc(t, p)
	for _, none := range []uint16{1, 500, 999, 1000, 3000, 4000, 4096, 65535} {
		if e := p.Free(none); e != api.ErrNone {
			t.Errorf("Free(%d): %v", none, e)
		}
		if s, e := p.Read(none); s != "" || e != api.ErrNone {
			t.Errorf("Read(%d): %q, %v", none, s, e)
		}
		if e := p.Write(none, strings.Repeat("x", 2000)); e != api.ErrNone {
			t.Errorf("Write(%d): %v", none, e)
		}
		if p.Is(none) {
			t.Errorf("Is(%d)", none)
		}
	}
	if e := p.Write(off, strings.Repeat("x", 1001)); e != api.ErrTooLarge {
		t.Error("too large:", e)
	}
	if s, _ := p.Read(off); s != strings.Repeat("\x00", 1000) {
		t.Error("a Write that was refused wrote")
	}
	if e := p.Write(off, strings.Repeat("x", 1000)); e != api.OK {
		t.Error("as long as a slot:", e)
	}
	if e := p.Free(off); e != api.OK {
		t.Error(e)
	}
	if e := p.Free(off); e != api.ErrNone {
		t.Error("given back twice:", e)
	}
	if off, e := p.Alloc(); off != 0 || e != api.OK {
		t.Error("behind that:", off, e)
	}
	if off, e := p.Alloc(); off != 1000 || e != api.OK {
		t.Error("behind that:", off, e)
	}
}

// P3.2, R1: of nil.
func TestNil(t *testing.T) {
	var p *page.Page
	if off, e := p.Alloc(); off != 0 || e != api.ErrNil {
		t.Error("Alloc:", off, e)
	}
	if e := p.Free(0); e != api.ErrNil {
		t.Error("Free:", e)
	}
	if s, e := p.Read(0); s != "" || e != api.ErrNil {
		t.Error("Read:", s, e)
	}
	if e := p.Write(0, ""); e != api.ErrNil {
		t.Error("Write:", e)
	}
	if p.Is(0) || p.Used() != 0 || p.Room() != 0 || p.Copy() != nil {
		t.Error("Is, Used, Room, Copy")
	}
}

// P3.7: what is done to a copy is not seen, nor is what is done to the page by the copy.
func TestCopies(t *testing.T) {
	p := make1(t, 1000)
	for range 3 {
		p.Write(alloc(t, p), "ab")
	}
	p.Free(1000)
	q := p.Copy()
	for range 2 {
		p.Write(0, "cd")
		p.Free(2000)
		if q.Used() != 2 || q.Room() != 2 || !q.Is(0) || q.Is(1000) || !q.Is(2000) {
			t.Fatal("used:", q.Used(), q.Room())
		}
		if s, e := q.Read(0); e != api.OK || s != "ab"+strings.Repeat("\x00", 998) {
			t.Fatalf("%q, %v", s, e)
		}
		alloc(t, p)
		alloc(t, p)
		if a, b := alloc(t, q), alloc(t, q); a != 1000 || b != 3000 {
			t.Fatal("told by the copy:", a, b)
		}
		if p.Used() != 3 {
			t.Fatal("used:", p.Used())
		}
		p = make1(t, 1000) // once more, the copy's and the page's parts changed
		for range 3 {
			p.Write(alloc(t, p), "ab")
		}
		p.Free(1000)
		p, q = p.Copy(), p
	}
}

func TestExamples(t *testing.T) {
	p := make1(t, 1000)
	for _, want := range []uint16{0, 1000, 2000, 3000} {
		if off := alloc(t, p); off != want {
			t.Error(off, want)
		}
	}
	if _, e := p.Alloc(); e != api.ErrFull {
		t.Error(e)
	}
	p.Free(1000)
	p.Free(3000)
	if a, b := alloc(t, p), alloc(t, p); a != 3000 || b != 1000 {
		t.Error(a, b)
	}
	p.Write(1000, "ab")
	if s, e := p.Read(1000); e != api.OK || s != "ab"+strings.Repeat("\x00", 998) {
		t.Errorf("%q %v", s, e)
	}
	p.Write(1000, "c")
	if s, e := p.Read(1000); e != api.OK || s != "c"+strings.Repeat("\x00", 999) {
		t.Errorf("%q %v", s, e)
	}
	if e := p.Free(500); e != api.ErrNone {
		t.Error(e)
	}
}
