package text_test

import (
	"math"
	"math/rand"
	"strings"
	"testing"

	"ferryman/api"
	"ferryman/text"
)

// texts are all texts of a few bytes, of which the greatest and the least are some, up to a length.
func texts(long int) []string {
	bytes := []string{"\x00", "\x01", "a", "\x80", "\xff"}
	all, last := []string{""}, []string{""}
	for range long {
		var next []string
		for _, s := range last {
			for _, b := range bytes {
				next = append(next, s+b)
			}
		}
		all, last = append(all, next...), next
	}
	return all
}

// ahead tells by the words, byte by byte, whether a stands ahead of b.
func ahead(a, b string) bool {
	for i := 0; i < len(b); i++ {
		if i == len(a) || a[i] < b[i] {
			return true
		}
		if a[i] > b[i] {
			return false
		}
	}
	return false
}

// P2.1, P2.4: the order.
func TestCompare(t *testing.T) {
	l := texts(3)
	for _, a := range l {
		for _, b := range l {
			want := 0
			if ahead(a, b) {
				want = -1
			} else if ahead(b, a) {
				want = 1
			}
			if got := text.Compare(a, b); got != want {
				t.Fatalf("Compare(%q, %q): %d, not %d", a, b, got, want)
			}
			if (want == 0) != (a == b) {
				t.Fatalf("%q, %q: just one is ahead, or they are the same", a, b)
			}
		}
		if a != "" && text.Compare("", a) != -1 {
			t.Fatalf("the empty text is not ahead of %q", a)
		}
	}
}

// P2.4: who stands ahead of one that stands ahead of a third one stands ahead of that.
func TestInARow(t *testing.T) {
	r := rand.New(rand.NewSource(1))
	l := texts(4)
	for range 20000 {
		a, b, c := l[r.Intn(len(l))], l[r.Intn(len(l))], l[r.Intn(len(l))]
		if text.Compare(a, b) < 0 && text.Compare(b, c) < 0 && text.Compare(a, c) != -1 {
			t.Fatalf("%q, %q, %q", a, b, c)
		}
	}
}

// P2.1: bytes that are the same at the beginning, and at the end.
func TestPrefixSuffix(t *testing.T) {
	l := texts(3)
	for _, a := range l {
		for _, b := range l {
			first := 0
			for first < min(len(a), len(b)) && strings.HasPrefix(b, a[:first+1]) {
				first++
			}
			if got := text.Prefix(a, b); got != first {
				t.Fatalf("Prefix(%q, %q): %d, not %d", a, b, got, first)
			}
			last := 0
			for last < min(len(a), len(b)) && strings.HasSuffix(b, a[len(a)-last-1:]) {
				last++
			}
			for _, most := range []int{math.MinInt, -1, 0, 1, 2, 3, 4, math.MaxInt} {
				if got, want := text.Suffix(a, b, most), max(min(last, most), 0); got != want {
					t.Fatalf("Suffix(%q, %q, %d): %d, not %d", a, b, most, got, want)
				}
			}
		}
	}
}

// P2.1, P2.5: none stands between a text and its next one; next ones stand as the texts do.
func TestNext(t *testing.T) {
	l := texts(3)
	for _, a := range l {
		next := text.Next(a)
		if next != a+"\x00" || text.Compare(a, next) != -1 {
			t.Fatalf("Next(%q): %q", a, next)
		}
		for _, b := range l {
			if text.Compare(a, b) < 0 && text.Compare(b, next) < 0 {
				t.Fatalf("%q is between %q and its next one", b, a)
			}
			if text.Compare(a, b) != text.Compare(next, text.Next(b)) {
				t.Fatalf("the next ones of %q, %q", a, b)
			}
		}
	}
}

// P2.2, P2.8: within bounds, and within their parts.
func TestWithin(t *testing.T) {
	l := texts(2)
	for _, key := range l {
		for _, from := range l {
			for _, end := range l {
				want := !ahead(key, from) && (end == "" || ahead(key, end))
				if got := text.Within(key, from, end); got != want {
					t.Fatalf("Within(%q, %q, %q): %v", key, from, end, got)
				}
			}
		}
	}
	r := rand.New(rand.NewSource(2))
	for range 20000 {
		key, from, mid, end := l[r.Intn(len(l))], l[r.Intn(len(l))], l[r.Intn(len(l))], l[r.Intn(len(l))]
		if mid == "" || text.Compare(from, mid) > 0 || end != "" && text.Compare(mid, end) > 0 {
			continue
		}
		if text.Within(key, from, end) != (text.Within(key, from, mid) || text.Within(key, mid, end)) {
			t.Fatalf("%q: %q, %q, %q", key, from, mid, end)
		}
	}
}

// P2.6: what is the same ahead, and what stands behind of what is unlike, does not count.
func TestByWhatIsUnlike(t *testing.T) {
	r := rand.New(rand.NewSource(3))
	l := texts(3)
	for range 20000 {
		a, b, c, d, e := l[r.Intn(len(l))], l[r.Intn(len(l))], l[r.Intn(len(l))], l[r.Intn(len(l))], l[r.Intn(len(l))]
		n := text.Prefix(a, b)
		if text.Compare(a, b) != text.Compare(a[n:], b[n:]) {
			t.Fatalf("%q, %q: behind their common beginning", a, b)
		}
		if text.Compare(c+a, c+b) != text.Compare(a, b) {
			t.Fatalf("%q, %q: behind %q", a, b, c)
		}
		if n < len(a) && n < len(b) && text.Compare(a+d, b+e) != text.Compare(a, b) {
			t.Fatalf("%q, %q: ahead of %q, %q", a, b, d, e)
		}
	}
}

// P2.7: two texts are told again by what is the same, and their middles.
func TestMiddles(t *testing.T) {
	l := texts(3)
	for _, a := range l {
		for _, b := range l {
			first := text.Prefix(a, b)
			last := text.Suffix(a[first:], b[first:], min(len(a), len(b)))
			m, n := a[first:len(a)-last], b[first:len(b)-last]
			if a[:first]+n+a[len(a)-last:] != b || b[:first]+m+b[len(b)-last:] != a {
				t.Fatalf("%q, %q are not told again", a, b)
			}
			if m != "" && n != "" && (m[0] == n[0] || m[len(m)-1] == n[len(n)-1]) {
				t.Fatalf("%q, %q: the middles %q, %q", a, b, m, n)
			}
			if left := min(len(a), len(b)) - first; text.Suffix(a, b, left) != last {
				t.Fatalf("%q, %q: %d last ones, of %d at most", a, b, text.Suffix(a, b, left), left)
			}
		}
	}
}

func least() api.Config {
	return api.Config{Tasks: 1, Active: 1, Keys: 1, Depth: 2, TS: 1, KeyLen: 1, ValLen: 0, Fan: 3}
}

func most() api.Config {
	return api.Config{Tasks: api.MaxTasks, Active: api.MaxActive, Keys: api.MaxKeys, Depth: api.MaxDepth, TS: api.MaxTS, KeyLen: api.MaxKey, ValLen: api.MaxVal, Fan: api.MaxFan}
}

// parts are a config's numbers.
func parts(c *api.Config) []*int {
	return []*int{&c.Tasks, &c.Active, &c.Keys, &c.Depth, &c.TS, &c.KeyLen, &c.ValLen, &c.Fan}
}

// P2.3: a config may be from the least to the most of each number.
func TestMay(t *testing.T) {
	if !text.May(least()) || !text.May(most()) || text.May(api.Config{}) {
		t.Error("the least, the most, and the empty config")
	}
	low, high := least(), most()
	for i := range 8 {
		for _, n := range []int{math.MinInt, -1, 0, 1, 2, 3, 4, 6, 7, 8, 9, 63, 64, 65, 256, 257, 1 << 20, 1<<20 + 1, math.MaxInt} {
			for _, c := range []api.Config{least(), most()} {
				*parts(&c)[i] = n
				if want := *parts(&low)[i] <= n && n <= *parts(&high)[i]; text.May(c) != want {
					t.Errorf("the number %d is %d: %v", i, n, !want)
				}
			}
		}
	}
}

// P2.3: lengths of keys, bounds, values.
func TestLengths(t *testing.T) {
	for _, long := range []int{1, 2, 5, api.MaxKey} {
		c := most()
		c.KeyLen, c.ValLen = long, long-1
		for n := 0; n <= long+2; n++ {
			s := strings.Repeat("\xfe", n)
			if got := text.Key(c, s); got != (n >= 1 && n <= long) {
				t.Errorf("Key of %d bytes, KeyLen %d: %v", n, long, got)
			}
			if got := text.Bound(c, s); got != (n <= long) {
				t.Errorf("Bound of %d bytes, KeyLen %d: %v", n, long, got)
			}
			if got := text.Value(c, s); got != (n <= long-1) {
				t.Errorf("Value of %d bytes, ValLen %d: %v", n, long-1, got)
			}
		}
	}
	if c := most(); !text.Value(c, strings.Repeat("x", api.MaxVal)) || text.Value(c, strings.Repeat("x", api.MaxVal+1)) {
		t.Error("the longest value")
	}
	for i := range 8 {
		c := most()
		*parts(&c)[i] += 1
		if text.Key(c, "a") || text.Bound(c, "a") || text.Bound(c, "") || text.Value(c, "") {
			t.Errorf("of a config that may not be (the number %d)", i)
		}
	}
}

func TestExamples(t *testing.T) {
	if text.Compare("a", "ab") != -1 || text.Compare("b", "ab") != 1 || text.Compare("", "") != 0 {
		t.Error("Compare")
	}
	if text.Prefix("abcx", "abdx") != 2 || text.Suffix("abcx", "abdx", 4) != 1 || text.Suffix("abcx", "abdx", 0) != 0 {
		t.Error("Prefix, Suffix")
	}
	if text.Next("a") != "a\x00" {
		t.Error("Next")
	}
	if !text.Within("b", "a", "c") || text.Within("c", "a", "c") || !text.Within("c", "a", "") {
		t.Error("Within")
	}
	c := most()
	c.KeyLen = 2
	if !text.Key(c, "ab") || text.Key(c, "") || text.Key(c, "abc") || !text.Bound(c, "") {
		t.Error("Key, Bound")
	}
}
