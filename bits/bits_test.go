package bits_test

import (
	"bytes"
	"math"
	"math/rand"
	"testing"

	"ferryman/api"
	"ferryman/bits"
)

// width is one of the three widths, by the package's calls.
type width struct {
	bytes int
	put   func(b []byte, at int, n uint64) bool
	get   func(b []byte, at int) (uint64, bool)
}

func widths() []width {
	return []width{
		{2, func(b []byte, at int, n uint64) bool { return bits.Put16(b, at, uint16(n)) },
			func(b []byte, at int) (uint64, bool) { n, is := bits.Get16(b, at); return uint64(n), is }},
		{4, func(b []byte, at int, n uint64) bool { return bits.Put32(b, at, uint32(n)) },
			func(b []byte, at int) (uint64, bool) { n, is := bits.Get32(b, at); return uint64(n), is }},
		{8, bits.Put64, bits.Get64},
	}
}

// cut tells what of a number has room in so many bytes.
func cut(n uint64, bytes int) uint64 {
	if bytes == 8 {
		return n
	}
	return n & (1<<(8*bytes) - 1)
}

// spelt writes a number's bytes out one by one, as the words say.
func spelt(n uint64, wide int) []byte {
	var out []byte
	for i := wide - 1; i >= 0; i-- {
		out = append(out, byte(n>>(8*i)))
	}
	return out
}

func numbers(r *rand.Rand) []uint64 {
	l := []uint64{0, 1, 255, 256, 258, 65535, 65536, 1<<32 - 1, 1 << 32, 1 << 63, math.MaxUint64, 0x0102030405060708}
	for range 50 {
		l = append(l, r.Uint64()>>r.Intn(64))
	}
	return l
}

// P1.1, P1.3: the bytes, the most significant one first; back again; all others stay.
func TestPutGet(t *testing.T) {
	r := rand.New(rand.NewSource(1))
	for _, w := range widths() {
		for _, n := range numbers(r) {
			n = cut(n, w.bytes)
			for at := 0; at <= 4; at++ {
				old := make([]byte, w.bytes+4)
				r.Read(old)
				b := bytes.Clone(old)
				if !w.put(b, at, n) {
					t.Fatalf("width %d at %d: refused", w.bytes, at)
				}
				want := append(append(bytes.Clone(old[:at]), spelt(n, w.bytes)...), old[at+w.bytes:]...)
				if !bytes.Equal(b, want) {
					t.Fatalf("width %d, %d at %d: %v, not %v", w.bytes, n, at, b, want)
				}
				if got, is := w.get(b, at); !is || got != n {
					t.Fatalf("width %d at %d: got %d %v, not %d", w.bytes, at, got, is, n)
				}
				if !bytes.Equal(b, want) {
					t.Fatalf("a Get wrote")
				}
			}
		}
	}
}

// P1.1: what would not be within is refused, and nothing is written.
func TestBeyond(t *testing.T) {
	places := []int{-1, -2, -8, -9, math.MinInt, math.MinInt + 1, math.MaxInt, math.MaxInt - 1, math.MaxInt - 8}
	for _, w := range widths() {
		for long := 0; long <= 12; long++ {
			at := append([]int{}, places...)
			for i := long - w.bytes + 1; i <= long+2; i++ {
				at = append(at, i)
			}
			for _, at := range at {
				b := bytes.Repeat([]byte{7}, long)
				within := at >= 0 && at <= long && long-at >= w.bytes
				if within {
					t.Fatal("the test is wrong")
				}
				if w.put(b, at, math.MaxUint64) {
					t.Errorf("width %d, %d bytes, at %d: put", w.bytes, long, at)
				}
				if !bytes.Equal(b, bytes.Repeat([]byte{7}, long)) {
					t.Errorf("width %d, %d bytes, at %d: written %v", w.bytes, long, at, b)
				}
				if n, is := w.get(b, at); is || n != 0 {
					t.Errorf("width %d, %d bytes, at %d: got %d %v", w.bytes, long, at, n, is)
				}
			}
			if is := w.put(make([]byte, long), max(long-w.bytes, 0), 1); is != (long >= w.bytes) {
				t.Errorf("width %d at the end of %d bytes: %v", w.bytes, long, is)
			}
		}
		if w.put(nil, 0, 1) {
			t.Errorf("width %d: put into nothing", w.bytes)
		}
		if n, is := w.get(nil, 0); is || n != 0 {
			t.Errorf("width %d: got of nothing", w.bytes)
		}
	}
}

// P1.1: the list may have room behind it, that is not within.
func TestRoomBehind(t *testing.T) {
	whole := make([]byte, 8)
	b := whole[:1]
	if bits.Put16(b, 0, 257) || bits.Put32(b, 0, 257) || bits.Put64(b, 0, 257) || !bytes.Equal(whole, make([]byte, 8)) {
		t.Error("put behind the end:", whole)
	}
	if _, is := bits.Get64(b, 0); is {
		t.Error("got behind the end")
	}
}

// P1.4: numbers at places that do not meet may be put in either row.
func TestApart(t *testing.T) {
	r := rand.New(rand.NewSource(2))
	for _, v := range widths() {
		for _, w := range widths() {
			a, b := make([]byte, 20), make([]byte, 20)
			m, n := r.Uint64(), r.Uint64()
			v.put(a, 1, m)
			w.put(a, 1+v.bytes, n)
			w.put(b, 1+v.bytes, n)
			v.put(b, 1, m)
			if !bytes.Equal(a, b) {
				t.Errorf("widths %d, %d: %v, %v", v.bytes, w.bytes, a, b)
			}
			if got, _ := v.get(a, 1); got != cut(m, v.bytes) {
				t.Errorf("width %d: %d", v.bytes, got)
			}
			if got, _ := w.get(a, 1+v.bytes); got != cut(n, w.bytes) {
				t.Errorf("width %d: %d", w.bytes, got)
			}
		}
	}
}

// P1.5: the lesser number's bytes are less.
func TestInRow(t *testing.T) {
	r := rand.New(rand.NewSource(3))
	for _, w := range widths() {
		l := numbers(r)
		for _, m := range l {
			for _, n := range l {
				m, n := cut(m, w.bytes), cut(n, w.bytes)
				a, b := make([]byte, w.bytes), make([]byte, w.bytes)
				w.put(a, 0, m)
				w.put(b, 0, n)
				if (m < n) != (bytes.Compare(a, b) < 0) || (m == n) != bytes.Equal(a, b) {
					t.Fatalf("width %d: %d, %d: %v, %v", w.bytes, m, n, a, b)
				}
			}
		}
	}
}

// P1.6: a number of 8 bytes is two of 4, one of 4 two of 2.
func TestHalves(t *testing.T) {
	r := rand.New(rand.NewSource(4))
	for range 200 {
		b := make([]byte, 8)
		r.Read(b)
		whole, _ := bits.Get64(b, 0)
		up, _ := bits.Get32(b, 0)
		low, _ := bits.Get32(b, 4)
		if whole != uint64(up)<<32|uint64(low) {
			t.Fatalf("%v: %d is not %d, %d", b, whole, up, low)
		}
		first, _ := bits.Get16(b, 0)
		second, _ := bits.Get16(b, 2)
		if up != uint32(first)<<16|uint32(second) {
			t.Fatalf("%v: %d is not %d, %d", b, up, first, second)
		}
		c := make([]byte, 8)
		bits.Put32(c, 0, up)
		bits.Put32(c, 4, low)
		if !bytes.Equal(b, c) {
			t.Fatalf("%v: put by halves: %v", b, c)
		}
	}
}

// P1.2, P1.7: handles, and their parts.
func TestHandles(t *testing.T) {
	r := rand.New(rand.NewSource(5))
	pages := []uint16{0, 1, 255, 256, 4095, 65535}
	gens := []uint32{0, 1, 65535, 65536, 1<<32 - 1}
	for range 20 {
		pages, gens = append(pages, uint16(r.Uint32())), append(gens, r.Uint32())
	}
	for _, page := range pages {
		for _, off := range pages {
			for _, gen := range gens {
				h := bits.Handle(page, off, gen)
				if want := uint64(page)*(1<<48) + uint64(off)*(1<<32) + uint64(gen); uint64(h) != want {
					t.Fatalf("Handle(%d, %d, %d): %d, not %d", page, off, gen, h, want)
				}
				if p, o, g := bits.Parts(h); p != page || o != off || g != gen {
					t.Fatalf("Parts of Handle(%d, %d, %d): %d, %d, %d", page, off, gen, p, o, g)
				}
			}
		}
	}
	for range 200 {
		h := api.Handle(r.Uint64())
		if back := bits.Handle(bits.Parts(h)); back != h {
			t.Fatalf("the parts of %d: %d", h, back)
		}
	}
}

func TestExamples(t *testing.T) {
	b := []byte{0, 0, 0, 0}
	if !bits.Put16(b, 1, 258) || !bytes.Equal(b, []byte{0, 1, 2, 0}) {
		t.Error("Put16:", b)
	}
	if bits.Put32(b, 1, 1) {
		t.Error("Put32 at 1 into four bytes")
	}
	if n, is := bits.Get32(b, 0); !is || n != 66048 {
		t.Error("Get32:", n, is)
	}
	if h := bits.Handle(1, 2, 3); h != 281483566645251 {
		t.Error("Handle:", h)
	}
	if p, o, g := bits.Parts(4294967295); p != 0 || o != 0 || g != 4294967295 {
		t.Error("Parts:", p, o, g)
	}
}
