package delta_test

import (
	"math/rand"
	"strings"
	"testing"

	"ferryman/api"
	"ferryman/delta"
)

// values are all texts of two letters up to a length.
func values(long int) []string {
	all, last := []string{""}, []string{""}
	for range long {
		var next []string
		for _, s := range last {
			next = append(next, s+"a", s+"b")
		}
		all, last = append(all, next...), next
	}
	return all
}

// spelt writes a delta out.
func spelt(begin, end int, middle string) string {
	return string([]byte{byte(begin / 256), byte(begin % 256), byte(end / 256), byte(end % 256)}) + middle
}

// told tells by the words what the delta is.
func told(newer, older string) string {
	short, begin, end := min(len(newer), len(older)), 0, 0
	for begin < short && newer[begin] == older[begin] {
		begin++
	}
	for end < short-begin && newer[len(newer)-1-end] == older[len(older)-1-end] {
		end++
	}
	return spelt(begin, end, older[begin:len(older)-end])
}

// some is a value that has much the same as others.
func some(r *rand.Rand) string {
	n := []int{0, 1, 2, 5, 40, 255, 256}[r.Intn(7)]
	b := []byte(strings.Repeat("abcab", 60)[:n])
	for range r.Intn(3) {
		if n > 0 {
			b[r.Intn(n)] = byte(r.Intn(256))
		}
	}
	return string(b)
}

// P7.1 to P7.3: the delta of each two values, and back.
func TestMakeApply(t *testing.T) {
	check := func(newer, older string) {
		t.Helper()
		d, e := delta.Make(newer, older)
		if e != api.OK || d != told(newer, older) {
			t.Fatalf("Make(%q, %q): %q, %v, not %q", newer, older, d, e, told(newer, older))
		}
		if got, e := delta.Apply(newer, d); e != api.OK || got != older {
			t.Fatalf("Apply(%q, %q): %q, %v, not %q", newer, d, got, e, older)
		}
		if len(d) > len(older)+4 || newer == older && len(d) != 4 {
			t.Fatalf("the delta of %q, %q has %d bytes", newer, older, len(d))
		}
	}
	for _, newer := range values(5) {
		for _, older := range values(5) {
			check(newer, older)
		}
	}
	r := rand.New(rand.NewSource(1))
	for range 5000 {
		check(some(r), some(r))
	}
}

// P7.5: one byte that differs.
func TestOneByte(t *testing.T) {
	r := rand.New(rand.NewSource(2))
	for range 1000 {
		newer := some(r)
		if newer == "" {
			continue
		}
		b := []byte(newer)
		b[r.Intn(len(b))] ^= byte(1 + r.Intn(255))
		if d, e := delta.Make(newer, string(b)); e != api.OK || len(d) != 5 {
			t.Fatalf("%q, %q: %q, %v", newer, b, d, e)
		}
	}
}

// P7.1: values of more than MaxVal bytes.
func TestTooLarge(t *testing.T) {
	most, more := strings.Repeat("x", api.MaxVal), strings.Repeat("x", api.MaxVal+1)
	if d, e := delta.Make(most, most); e != api.OK || d != spelt(256, 0, "") {
		t.Errorf("%q, %v", d, e)
	}
	for _, l := range [][2]string{{more, "a"}, {"a", more}, {more, more}, {strings.Repeat("y", 70000), ""}} {
		if d, e := delta.Make(l[0], l[1]); d != "" || e != api.ErrTooLarge {
			t.Errorf("Make of %d, %d bytes: %q, %v", len(l[0]), len(l[1]), d, e)
		}
	}
	for _, d := range []string{"", "abc", spelt(0, 0, ""), spelt(257, 0, "")} {
		if s, e := delta.Apply(more, d); s != "" || e != api.ErrTooLarge {
			t.Errorf("Apply(.., %q): %q, %v", d, s, e)
		}
	}
	if s, e := delta.Apply(most, spelt(255, 1, "")); s != "" || e != api.ErrForm {
		t.Errorf("that is not what Make tells: %q, %v", s, e)
	}
	older := "y" + most[1:]
	if s, e := delta.Apply(most, spelt(0, 255, "y")); s != older || e != api.OK {
		t.Errorf("%q, %v", s, e)
	}
	for _, d := range []string{spelt(0, 0, more), spelt(0, 255, "yz"), spelt(255, 0, "yz"), spelt(0, 256, "y"), spelt(256, 0, "y")} {
		if s, e := delta.Apply(most, d); s != "" || e != api.ErrForm {
			t.Errorf("an older one of more than MaxVal bytes: %q, %v", s, e)
		}
	}
	if s, e := delta.Apply("", spelt(0, 0, most)); s != most || e != api.OK {
		t.Errorf("%d bytes, %v", len(s), e)
	}
	if s, e := delta.Apply("", spelt(0, 0, more)); s != "" || e != api.ErrForm {
		t.Errorf("%d bytes, %v", len(s), e)
	}
}

// P7.1, P7.2: what Apply takes Make tells; anything else is refused.
func TestForm(t *testing.T) {
	for _, newer := range values(4) {
		made := map[string]string{}
		for _, older := range values(5) {
			made[told(newer, older)] = older
		}
		for begin := range 6 {
			for end := range 6 {
				for _, middle := range values(4) {
					if begin+end+len(middle) > 5 {
						continue
					}
					d := spelt(begin, end, middle)
					want, is := made[d]
					s, e := delta.Apply(newer, d)
					if is && (s != want || e != api.OK) || !is && (s != "" || e != api.ErrForm) {
						t.Fatalf("Apply(%q, %q): %q, %v; it is one: %v", newer, d, s, e, is)
					}
				}
			}
		}
	}
	for _, d := range []string{"", "\x00", "\x00\x00", "\x00\x00\x00", spelt(65535, 65535, ""), spelt(65535, 0, ""), spelt(0, 65535, ""), spelt(32768, 32768, ""), spelt(2, 0, ""), spelt(1, 1, "")} {
		if s, e := delta.Apply("x", d); s != "" || e != api.ErrForm {
			t.Errorf("Apply(x, %q): %q, %v", d, s, e)
		}
	}
}

// P7.4, P7.1: chains of values.
func TestBack(t *testing.T) {
	r := rand.New(rand.NewSource(3))
	for range 300 {
		l := []string{some(r)}
		var d []string
		for k := range 1 + r.Intn(8) {
			l = append(l, some(r))
			one, _ := delta.Make(l[k], l[k+1])
			d = append(d, one)
		}
		for k := range len(l) {
			if s, e := delta.Back(l[0], d[:k]); s != l[k] || e != api.OK {
				t.Fatalf("%q by %q: %q, %v, not %q", l[0], d[:k], s, e, l[k])
			}
		}
	}
	large, ok := strings.Repeat("x", api.MaxVal+1), spelt(0, 1, "")
	if s, e := delta.Back("x", nil); s != "x" || e != api.OK {
		t.Errorf("by no deltas: %q, %v", s, e)
	}
	if s, e := delta.Back(large, []string{"", ok}); s != "" || e != api.ErrTooLarge {
		t.Errorf("%q, %v", s, e)
	}
	for _, d := range [][]string{{"abc"}, {spelt(1, 0, ""), "", spelt(1, 0, "")}, {spelt(1, 0, ""), spelt(0, 2, "")}} {
		if s, e := delta.Back("x", d); s != "" || e != api.ErrForm {
			t.Errorf("%q: %q, %v", d, s, e)
		}
	}
}

func TestExamples(t *testing.T) {
	if d, e := delta.Make("abcdef", "abXef"); d != "\x00\x02\x00\x02X" || e != api.OK {
		t.Errorf("%q, %v", d, e)
	}
	if s, e := delta.Apply("abcdef", "\x00\x02\x00\x02X"); s != "abXef" || e != api.OK {
		t.Errorf("%q, %v", s, e)
	}
	if d, e := delta.Make("aaa", "aa"); d != "\x00\x02\x00\x00" || e != api.OK {
		t.Errorf("%q, %v", d, e)
	}
	if s, e := delta.Apply("ab", "\x00\x02\x00\x01"); s != "" || e != api.ErrForm {
		t.Errorf("%q, %v", s, e)
	}
	if d, e := delta.Make("x", "x"); d != "\x00\x01\x00\x00" || e != api.OK {
		t.Errorf("%q, %v", d, e)
	}
}
