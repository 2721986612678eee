package call_test

import (
	"math"
	"math/rand"
	"slices"
	"strconv"
	"strings"
	"testing"

	"ferryman/api"
	"ferryman/call"
)

// full is a call in which something stands everywhere.
func full(kind uint8) api.Call {
	return api.Call{Kind: kind, Tx: 7, Key: "k", End: "e", Value: "v", Limit: 9, Engine: 2}
}

// clean tells by the words what a Kind names of a call.
func clean(x api.Call) api.Call {
	switch x.Kind {
	case api.Get, api.Delete:
		return api.Call{Kind: x.Kind, Tx: x.Tx, Key: x.Key}
	case api.Put:
		return api.Call{Kind: x.Kind, Tx: x.Tx, Key: x.Key, Value: x.Value}
	case api.Scan:
		return api.Call{Kind: x.Kind, Tx: x.Tx, Key: x.Key, End: x.End, Limit: x.Limit}
	case api.Commit, api.Abort:
		return api.Call{Kind: x.Kind, Tx: x.Tx}
	case api.Migrate:
		return api.Call{Kind: x.Kind, Engine: x.Engine}
	}
	return api.Call{Kind: x.Kind}
}

// spelt tells a text's word.
func spelt(s string) string {
	if s == "" {
		return "-"
	}
	out := ""
	for k := range len(s) {
		h := strconv.FormatInt(int64(s[k]), 16)
		if len(h) < 2 {
			h = "0" + h
		}
		out += h
	}
	return out
}

// shown tells by the words a call's text.
func shown(x api.Call) string {
	tx, key := strconv.Itoa(x.Tx), spelt(x.Key)
	switch x.Kind {
	case api.Begin:
		return "begin"
	case api.Get:
		return "get " + tx + " " + key
	case api.Put:
		return "put " + tx + " " + key + " " + spelt(x.Value)
	case api.Delete:
		return "delete " + tx + " " + key
	case api.Scan:
		return "scan " + tx + " " + key + " " + spelt(x.End) + " " + strconv.Itoa(x.Limit)
	case api.Commit:
		return "commit " + tx
	case api.Abort:
		return "abort " + tx
	case api.Vacuum:
		return "vacuum"
	case api.Migrate:
		if x.Engine == 1 || x.Engine == 2 {
			return "migrate " + strconv.Itoa(int(x.Engine))
		}
	}
	return ""
}

var texts = []string{"", "a", "b", "ab", "\x00", "\xff", "\x0a -", strings.Repeat("\x10\xfa", 40)}
var numbers = []int{0, 1, 2, 9, 10, -1, -10, 128, math.MaxInt, math.MinInt}

// some is some call, of whatever Kind.
func some(r *rand.Rand) api.Call {
	return api.Call{Kind: uint8(r.Intn(12)), Tx: numbers[r.Intn(10)], Key: texts[r.Intn(8)], End: texts[r.Intn(8)], Value: texts[r.Intn(8)], Limit: numbers[r.Intn(10)], Engine: uint8(r.Intn(4))}
}

func may(x api.Call) bool { return shown(x) != "" }

// P20.1: what may be, what a Kind names, what is the same.
func TestMaySame(t *testing.T) {
	for k := range 256 {
		kind := uint8(k)
		if got := call.Needs(kind); got != (kind >= 2 && kind <= 7) {
			t.Errorf("Needs(%d): %v", kind, got)
		}
		for engine := range 256 {
			x := full(kind)
			x.Engine = uint8(engine)
			want := api.ErrArg
			if may(x) {
				want = api.OK
			}
			if got := call.May(x); got != want {
				t.Errorf("May(%+v): %v", x, got)
			}
		}
		if got := call.Clean(full(kind)); got != clean(full(kind)) {
			t.Errorf("Clean of the Kind %d: %+v", kind, got)
		}
	}
	r := rand.New(rand.NewSource(1))
	for range 20000 {
		a, b := some(r), some(r)
		if r.Intn(2) == 0 {
			b = a
			switch r.Intn(7) {
			case 0:
				b.Tx++
			case 1:
				b.Key += "x"
			case 2:
				b.End += "x"
			case 3:
				b.Value += "x"
			case 4:
				b.Limit++
			case 5:
				b.Engine++
			}
		}
		want := clean(a) == clean(b)
		if call.Same(a, b) != want || call.Same(b, a) != want {
			t.Fatalf("Same(%+v, %+v): %v", a, b, !want)
		}
		if got := call.Clean(a); got != clean(a) {
			t.Fatalf("Clean(%+v): %+v", a, got)
		}
	}
}

func config(keyLen, valLen int) api.Config {
	return api.Config{Tasks: 1, Active: 1, Keys: 1, Depth: 2, TS: 1, KeyLen: keyLen, ValLen: valLen, Fan: 3}
}

// fits tells by S1 whether a call fits.
func fits(c api.Config, x api.Call, may bool) bool {
	key := len(x.Key) >= 1 && len(x.Key) <= c.KeyLen && may
	switch x.Kind {
	case api.Get, api.Delete:
		return key
	case api.Put:
		return key && len(x.Value) <= c.ValLen
	case api.Scan:
		return len(x.Key) <= c.KeyLen && len(x.End) <= c.KeyLen && x.Limit >= 0 && x.Limit <= 128 && may
	}
	return true
}

// P20.1, P20.7: what fits a config, and a larger one.
func TestFits(t *testing.T) {
	r := rand.New(rand.NewSource(2))
	told := map[api.Errno]int{}
	for range 20000 {
		x := some(r)
		x.Kind = uint8(r.Intn(12))
		x.Limit = []int{0, 1, 5, 127, 128, 129, -1, math.MaxInt, math.MinInt}[r.Intn(9)]
		long := strings.Repeat("k", r.Intn(6))
		x.Key, x.End, x.Value = long, strings.Repeat("e", r.Intn(6)), strings.Repeat("v", r.Intn(6))
		c := config(1+r.Intn(5), r.Intn(5))
		want := api.OK
		if !fits(c, x, true) {
			want = api.TooLarge
		}
		told[want]++
		if got := call.Fits(c, x); got != want {
			t.Fatalf("Fits(%+v, %+v): %v", c, x, got)
		}
		larger := c
		larger.KeyLen += r.Intn(3)
		larger.ValLen += r.Intn(3)
		larger.Keys += r.Intn(3)
		if want == api.OK && call.Fits(larger, x) != api.OK {
			t.Fatalf("%+v does not fit %+v", x, larger)
		}
	}
	if told[api.OK] < 1000 || told[api.TooLarge] < 1000 {
		t.Error(told)
	}
	for _, c := range []api.Config{{}, config(65, 5), config(5, 257)} {
		for k := range 256 {
			x := full(uint8(k))
			want := api.OK
			if k >= 2 && k <= 5 {
				want = api.TooLarge
			}
			if got := call.Fits(c, x); got != want {
				t.Errorf("of a config that may not be: %+v: %v", x, got)
			}
		}
	}
}

// P20.2, P20.4, P20.5: texts of calls, and back.
func TestShowParse(t *testing.T) {
	r := rand.New(rand.NewSource(3))
	seen := map[string]api.Call{}
	for range 20000 {
		x := some(r)
		s := call.Show(x)
		if s != shown(x) {
			t.Fatalf("Show(%+v): %q, not %q", x, s, shown(x))
		}
		if s == "" {
			continue
		}
		got, e := call.Parse(s)
		if e != api.OK || got != clean(x) || call.Show(got) != s {
			t.Fatalf("Parse(%q): %+v, %v, not %+v", s, got, e, clean(x))
		}
		if other, is := seen[s]; is && other != clean(x) {
			t.Fatalf("%q is the text of %+v, and of %+v", s, other, x)
		}
		seen[s] = clean(x)
	}
}

// P20.2: what is no call's text.
func TestParseForm(t *testing.T) {
	for _, s := range []string{
		"", " ", "begin ", " begin", "Begin", "beginn", "begi", "begin 1", "begin -", "vacuum 1", "vacuum ", "none", "-", "1",
		"get", "get ", "get 1", "get 1 ", "get 01 61", "get 1 6", "get 1 6g", "get 1 6A", "get 1 616", "get 1  61", "get  1 61", "get 1 61 ", "get 1 61 61", " get 1 61",
		"get +1 61", "get -0 61", "get - 61", "get 1- 61", "get 1.0 61", "get 0x1 61", "get 1_0 61", "get 99999999999999999999 61", "get -99999999999999999999 61", "get 00 61", "get -01 61", "get a 61",
		"get 1 --", "get 1 -61", "get 1 \x361\x00", "get 1\t61", "get 1 61\n", "get\n1 61", "get 1 0x61", "get 1 g0", "get 1 /0", "get 1 :0", "get 1 `0",
		"put 1 61", "put 1 61 ", "put 1 61 62 63", "put 61 62", "put 1 - - -", "delete 1", "delete 1 61 62",
		"scan 1 61 62", "scan 1 61 62 05", "scan 1 61 62 5 6", "scan 1 61 5", "scan 1 61 62 -", "scan 1 61 62 ",
		"commit", "commit ", "commit 1 2", "commit 01", "commit -", "abort", "abort x", "abort 1 ",
		"migrate", "migrate ", "migrate 0", "migrate 3", "migrate 257", "migrate 258", "migrate -1", "migrate -254", "migrate 01", "migrate 1 2", "migrate 18446744073709551617",
	} {
		if x, e := call.Parse(s); x != (api.Call{}) || e != api.ErrForm {
			t.Errorf("Parse(%q): %+v, %v", s, x, e)
		}
	}
	for s, want := range map[string]api.Call{
		"get -5 61":            {Kind: api.Get, Tx: -5, Key: "a"},
		"get 0 -":              {Kind: api.Get},
		"scan 2 - - -1":        {Kind: api.Scan, Tx: 2, Limit: -1},
		"put 1 00ff 0a2d":      {Kind: api.Put, Tx: 1, Key: "\x00\xff", Value: "\n-"},
		"migrate 2":            {Kind: api.Migrate, Engine: 2},
		"abort 10":             {Kind: api.Abort, Tx: 10},
		"delete 1 616263":      {Kind: api.Delete, Tx: 1, Key: "abc"},
		"scan 1 61 62 1000000": {Kind: api.Scan, Tx: 1, Key: "a", End: "b", Limit: 1000000},
	} {
		if x, e := call.Parse(s); x != want || e != api.OK {
			t.Errorf("Parse(%q): %+v, %v", s, x, e)
		}
	}
}

// P20.4, P20.6: what is parsed, shown, is the text; whatever was done to a text.
func TestTexts(t *testing.T) {
	r := rand.New(rand.NewSource(4))
	ok := 0
	for range 40000 {
		s := shown(some(r))
		if r.Intn(4) > 0 {
			s = spoilt(r, s)
		}
		x, e := call.Parse(s)
		if e == api.OK {
			ok++
		}
		if e == api.OK && call.Show(x) != s || e != api.OK && (e != api.ErrForm || x != (api.Call{})) {
			t.Fatalf("Parse(%q): %+v, %v", s, x, e)
		}
		words := strings.Split(s, " ")
		for k := 1; e == api.OK && k < len(words); k++ {
			if y, e := call.Parse(strings.Join(words[:k], " ")); e != api.ErrForm {
				t.Fatalf("a beginning of %q: %+v, %v", s, y, e)
			}
		}
	}
	if ok < 5000 {
		t.Error("too few that are right:", ok)
	}
}

// spoilt is a text to which something was done.
func spoilt(r *rand.Rand, s string) string {
	if s == "" {
		return " "
	}
	at := r.Intn(len(s))
	switch r.Intn(4) {
	case 0:
		return s[:at] + s[at+1:]
	case 1:
		return s[:at] + string("0123456789abcdef -A"[r.Intn(19)]) + s[at:]
	case 2:
		return s[:at]
	}
	return s[:at] + string("0 -f1"[r.Intn(5)]) + s[at+1:]
}

// answer is some answer.
func answer(r *rand.Rand) api.Answer {
	a := api.Answer{Err: api.Errno(numbers[r.Intn(10)]), Found: r.Intn(2) == 0, Value: texts[r.Intn(8)]}
	for range r.Intn(4) {
		a.Pairs = append(a.Pairs, api.Pair{Key: texts[r.Intn(8)], Value: texts[r.Intn(8)]})
	}
	return a
}

func same(a, b api.Answer) bool {
	return a.Err == b.Err && a.Found == b.Found && a.Value == b.Value && slices.Equal(a.Pairs, b.Pairs)
}

func told(a api.Answer) string {
	s := strconv.Itoa(int(a.Err)) + " 0 "
	if a.Found {
		s = strconv.Itoa(int(a.Err)) + " 1 "
	}
	s += spelt(a.Value)
	for _, p := range a.Pairs {
		s += " " + spelt(p.Key) + " " + spelt(p.Value)
	}
	return s
}

// P20.2, P20.4, P20.5: texts of answers, and back.
func TestTellRead(t *testing.T) {
	r := rand.New(rand.NewSource(5))
	for range 20000 {
		a, b := answer(r), answer(r)
		s := call.Tell(a)
		if s != told(a) {
			t.Fatalf("Tell(%+v): %q, not %q", a, s, told(a))
		}
		if got, e := call.Read(s); e != api.OK || !same(got, a) {
			t.Fatalf("Read(%q): %+v, %v", s, got, e)
		}
		if (call.Tell(b) == s) != same(a, b) {
			t.Fatalf("%+v, %+v: %q", a, b, s)
		}
		s = spoilt(r, s)
		if got, e := call.Read(s); e == api.OK && call.Tell(got) != s || e != api.OK && (e != api.ErrForm || !same(got, api.Answer{})) {
			t.Fatalf("Read(%q): %+v, %v", s, got, e)
		}
	}
	for _, s := range []string{"", "0", "0 1", "0 1 ", " 0 1 -", "0 2 -", "0 01 -", "0 -1 -", "00 1 -", "-0 1 -", "x 1 -", "0 1 6", "0 1 - 61", "0 1 - 61 62 63", "0 1 - 61 ", "0 1 -  ", "0  1 -", "0 1 - - - ", "0 1 7A", "0 - -", "0 1 --", "99999999999999999999 0 -"} {
		if got, e := call.Read(s); e != api.ErrForm || !same(got, api.Answer{}) {
			t.Errorf("Read(%q): %+v, %v", s, got, e)
		}
	}
	if got, e := call.Read("0 0 - - -"); e != api.OK || len(got.Pairs) != 1 || got.Pairs[0] != (api.Pair{}) {
		t.Error(got, e)
	}
}

// P20.3: a task's transactions, also of a list that nobody made.
func TestTxs(t *testing.T) {
	var x call.Txs
	for n, w := range []int{5, 3, 9, -1, 3} {
		if x.Len() != n {
			t.Error("Len:", x.Len())
		}
		for _, k := range []int{math.MinInt, -1, 0, n + 1, math.MaxInt} {
			if got, is := x.Of(k); got != 0 || is {
				t.Errorf("Of(%d): %d, %v", k, got, is)
			}
		}
		x.Add(w)
		if got, is := x.Of(n + 1); got != w || !is {
			t.Errorf("Of(%d): %d, %v", n+1, got, is)
		}
		if got, is := x.Of(1); got != 5 || !is {
			t.Errorf("Of(1): %d, %v", got, is)
		}
	}
	for turn := range 2 {
		a := &call.Txs{}
		a.Add(1)
		a.Add(2)
		b := a.Copy()
		if turn == 1 {
			a, b = b, a
		}
		a.Add(3)
		b.Add(4)
		b.Add(5)
		if got, is := a.Of(3); got != 3 || !is || a.Len() != 3 || b.Len() != 4 {
			t.Error(got, is, a.Len(), b.Len())
		}
		if got, is := b.Of(3); got != 4 || !is {
			t.Error(got, is)
		}
	}
	var none *call.Txs
	none.Add(1)
	if got, is := none.Of(1); got != 0 || is || none.Len() != 0 || none.Copy() != nil {
		t.Error("of nil")
	}
}

func TestExamples(t *testing.T) {
	if s := call.Show(api.Call{Kind: api.Put, Tx: 1, Key: "a"}); s != "put 1 61 -" {
		t.Error(s)
	}
	if s := call.Show(api.Call{Kind: api.Begin, Key: "a"}); s != "begin" {
		t.Error(s)
	}
	if x, e := call.Parse("scan 2 - 62 5"); e != api.OK || x != (api.Call{Kind: api.Scan, Tx: 2, End: "b", Limit: 5}) {
		t.Error(x, e)
	}
	for _, s := range []string{"get 01 61", "get 1", "begin "} {
		if _, e := call.Parse(s); e != api.ErrForm {
			t.Error(s, e)
		}
	}
	if s := call.Tell(api.Answer{Found: true, Value: "x"}); s != "0 1 78" {
		t.Error(s)
	}
	if s := call.Tell(api.Answer{Err: api.Conflict}); s != "33 0 -" {
		t.Error(s)
	}
	if e := call.Fits(config(2, 2), api.Call{Kind: api.Get, Tx: 1, Key: "abc"}); e != api.TooLarge {
		t.Error(e)
	}
}
