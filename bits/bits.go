// Package bits is layer 1: numbers in bytes, and handles (doc/01-bits.md).
package bits

import "ferryman/api"

// number is any width that the package writes and reads.
type number interface{ uint16 | uint32 | uint64 }

// width tells how many bytes a number has: counted from the type itself, so that no width stands anywhere twice.
func width[N number]() int {
	bytes := 0
	for rest := ^N(0); rest > 0; rest >>= 8 {
		bytes++
	}
	return bytes
}

// within subtracts from the length, as adding to the place might wrap round.
func within(b []byte, at, width int) bool { return at >= 0 && at <= len(b)-width }

func put[N number](b []byte, at int, n N) bool {
	w := width[N]()
	if !within(b, at, w) {
		return false
	}
	for i := w - 1; i >= 0; i-- {
		b[at+i] = byte(n)
		n >>= 8
	}
	return true
}

func get[N number](b []byte, at int) (N, bool) {
	w := width[N]()
	if !within(b, at, w) {
		return 0, false
	}
	var n N
	for i := range w {
		n = n<<8 | N(b[at+i])
	}
	return n, true
}

// Put16 writes a number of 2 bytes into b, at a place; no: it would not be within.
func Put16(b []byte, at int, n uint16) bool { return put(b, at, n) }

// Put32 writes a number of 4 bytes into b, at a place; no: it would not be within.
func Put32(b []byte, at int, n uint32) bool { return put(b, at, n) }

// Put64 writes a number of 8 bytes into b, at a place; no: it would not be within.
func Put64(b []byte, at int, n uint64) bool { return put(b, at, n) }

// Get16 tells the number of 2 bytes at a place; no: it would not be within.
func Get16(b []byte, at int) (uint16, bool) { return get[uint16](b, at) }

// Get32 tells the number of 4 bytes at a place; no: it would not be within.
func Get32(b []byte, at int) (uint32, bool) { return get[uint32](b, at) }

// Get64 tells the number of 8 bytes at a place; no: it would not be within.
func Get64(b []byte, at int) (uint64, bool) { return get[uint64](b, at) }

// Handle is made of a page, an offset, and a generation.
func Handle(page, off uint16, gen uint32) api.Handle {
	return api.Handle(page)<<48 | api.Handle(off)<<32 | api.Handle(gen)
}

// Parts tells of what a handle was made.
func Parts(h api.Handle) (page, off uint16, gen uint32) {
	return uint16(h >> 48), uint16(h >> 32), uint32(h)
}
