package undo_test

import (
	"math"
	"math/rand"
	"slices"
	"strings"
	"testing"

	"ferryman/api"
	"ferryman/undo"
)

func config(valLen int) api.Config {
	return api.Config{Tasks: 1, Active: 1, Keys: 1, Depth: 2, TS: 1, KeyLen: 4, ValLen: valLen, Fan: 3}
}

func make1(t *testing.T, valLen int) *undo.Undos {
	t.Helper()
	u, e := undo.New(config(valLen))
	if e != api.OK || u == nil {
		t.Fatal("New:", e)
	}
	return u
}

func v(w int, value string) api.Version { return api.Version{Writer: w, Value: value} }
func tomb(w int) api.Version            { return api.Version{Writer: w, Tomb: true} }

func row(t *testing.T, u *undo.Undos, x api.Version, record api.Handle) api.Handle {
	t.Helper()
	h, e := u.Make(x, record)
	if e != api.OK || h == 0 {
		t.Fatalf("Make(%+v): %d, %v", x, h, e)
	}
	return h
}

func save(t *testing.T, u *undo.Undos, older api.Version, next api.Handle, newer api.Version) api.Handle {
	t.Helper()
	h, e := u.Save(older, next, newer)
	if e != api.OK || h == 0 {
		t.Fatalf("Save(%+v, %d, %+v): %d, %v", older, next, newer, h, e)
	}
	return h
}

// wrong are versions that may not be, of ValLen 4.
func wrong() []api.Version {
	return []api.Version{{}, v(0, "a"), v(-1, ""), v(math.MinInt, ""), v(1, "abcde"), {Writer: 1, Tomb: true, Value: "a"}, {Tomb: true}}
}

// slot is a row, or a record, by the words.
type slot struct {
	record     bool
	v          api.Version
	next       api.Handle
	segment    int
	begin, end int // of a record: what it has the same as the newer one
	middle     string
}

// ends tells what two values have the same at both ends.
func ends(newer, older string) (begin, end int) {
	short := min(len(newer), len(older))
	for begin < short && newer[begin] == older[begin] {
		begin++
	}
	for end < short-begin && newer[len(newer)-1-end] == older[len(older)-1-end] {
		end++
	}
	return begin, end
}

type world struct {
	named    map[api.Handle]slot
	segments map[int][]api.Handle
	all      []api.Handle
}

func newWorld() *world {
	return &world{named: map[api.Handle]slot{}, segments: map[int][]api.Handle{}}
}

func (o *world) save(h api.Handle, older api.Version, next api.Handle, newer api.Version) {
	begin, end := ends(newer.Value, older.Value)
	older.TS = 0
	o.named[h] = slot{record: true, v: older, next: next, segment: newer.Writer, begin: begin, end: end, middle: older.Value[begin : len(older.Value)-end]}
	o.segments[newer.Writer] = append(o.segments[newer.Writer], h)
	o.all = append(o.all, h)
}

// record tells what a record is told by a newer version, if it can be.
func (o *world) record(h api.Handle, newer api.Version) (api.Version, api.Handle, bool) {
	s, is := o.named[h]
	if !is || !s.record || s.begin+s.end > len(newer.Value) {
		return api.Version{}, 0, false
	}
	s.v.Value = newer.Value[:s.begin] + s.middle + newer.Value[len(newer.Value)-s.end:]
	if begin, end := ends(newer.Value, s.v.Value); begin != s.begin || end != s.end {
		return api.Version{}, 0, false
	}
	return s.v, s.next, true
}

func (o *world) list(h api.Handle) []api.Version {
	s, is := o.named[h]
	if !is || s.record {
		return nil
	}
	l, next := []api.Version{s.v}, s.next
	for len(l) < len(o.named) {
		older, then, is := o.record(next, l[len(l)-1])
		if !is {
			break
		}
		l, next = append(l, older), then
	}
	return l
}

func (o *world) free(h api.Handle) {
	if s := o.named[h]; s.record {
		k := slices.Index(o.segments[s.segment], h)
		if o.segments[s.segment] = slices.Delete(slices.Clone(o.segments[s.segment]), k, k+1); len(o.segments[s.segment]) == 0 {
			delete(o.segments, s.segment)
		}
	}
	delete(o.named, h)
}

func (o *world) check(t *testing.T, u *undo.Undos) {
	t.Helper()
	rows := 0
	for _, h := range append([]api.Handle{0}, o.all...) {
		s, is := o.named[h]
		x, record, has := u.Row(h)
		if is && !s.record {
			rows++
			if x != s.v || record != s.next || !has {
				t.Fatalf("Row(%x): %+v, %x, %v, not %+v", h, x, record, has, s)
			}
		} else if x != (api.Version{}) || record != 0 || has {
			t.Fatalf("Row(%x) of none: %+v, %x, %v", h, x, record, has)
		}
		for _, newer := range []api.Version{v(1, ""), v(2, "abcd"), v(2, "abXd"), v(3, "abc"), v(3, "aaaa"), v(0, strings.Repeat("x", 300))} {
			a, b, c := u.Record(h, newer)
			if len(newer.Value) > api.MaxVal {
				if a != (api.Version{}) || b != 0 || c {
					t.Fatal("told by a value that is too large")
				}
			} else if x, y, z := o.record(h, newer); a != x || b != y || c != z {
				t.Fatalf("Record(%x, %+v): %+v, %x, %v, not %+v, %x, %v", h, newer, a, b, c, x, y, z)
			}
		}
		if l := u.List(h); !slices.Equal(l, o.list(h)) {
			t.Fatalf("List(%x): %+v, not %+v", h, l, o.list(h))
		}
	}
	var writers []int
	records := 0
	for w, l := range o.segments {
		writers = append(writers, w)
		records += len(l)
		if got := u.Segment(w); !slices.Equal(got, l) {
			t.Fatalf("Segment(%d): %v, not %v", w, got, l)
		}
	}
	slices.Sort(writers)
	if got := u.Segments(); !slices.Equal(got, writers) || u.Used() != len(o.named) || u.Used() != rows+records {
		t.Fatalf("Segments: %v, not %v; used %d, not %d", got, writers, u.Used(), len(o.named))
	}
	if len(u.Segment(99)) != 0 || len(u.Segment(-1)) != 0 {
		t.Fatal("a segment of none")
	}
}

var values = []string{"", "a", "abcd", "abXd", "abc", "bcd", "aaaa", "aa"}

func some(r *rand.Rand) api.Version {
	x := api.Version{Writer: 1 + r.Intn(4), TS: r.Intn(5) - 1, Value: values[r.Intn(len(values))]}
	if r.Intn(4) == 0 {
		x.Tomb, x.Value = true, ""
	}
	return x
}

func plain(x api.Version) api.Version {
	x.TS = 0
	return x
}

// P18.1, P18.2, P18.5, P18.6: whatever is made, changed, saved, cut, given back.
func TestWhatever(t *testing.T) {
	for seed := range 40 {
		r := rand.New(rand.NewSource(int64(seed)))
		u, o := make1(t, 4), newWorld()
		pick := func() api.Handle {
			if n := len(o.all); n > 0 && r.Intn(8) > 0 {
				return o.all[max(0, n-1-r.Intn(12))]
			}
			return 0
		}
		for range 150 {
			h, next := pick(), pick()
			s, is := o.named[h]
			isRow, isRecord := is && !s.record, is && s.record
			want, e := api.OK, api.OK
			none := func(is bool) {
				if !is {
					want = api.ErrNone
				}
			}
			switch x, y := some(r), some(r); r.Intn(10) {
			case 0, 1:
				k := row(t, u, x, next)
				o.all, o.named[k] = append(o.all, k), slot{v: plain(x), next: next}
			case 2, 3, 4:
				o.save(save(t, u, x, next, y), x, next, y)
			case 5, 6:
				none(isRow)
				if e = u.Change(h, x, next); isRow {
					o.named[h] = slot{v: plain(x), next: next}
				}
			case 7:
				none(isRecord)
				if e = u.Cut(h); isRecord {
					s.next = 0
					o.named[h] = s
				}
			case 8:
				none(is)
				if e = u.Free(h); is {
					o.free(h)
				}
			case 9:
				w := r.Intn(6) - 1
				got, has := u.Pop(w)
				if l := o.segments[w]; len(l) == 0 && (got != 0 || has) || len(l) > 0 && (got != l[0] || !has) {
					t.Fatalf("Pop(%d): %x, %v, of %x", w, got, has, l)
				} else if has {
					o.free(got)
				}
			}
			if e != want {
				t.Fatalf("of %x: %v, not %v", h, e, want)
			}
			o.check(t, u)
		}
	}
}

// P18.3, P18.4: versions that are put on, one on the other, and taken off again; and what ends.
func TestAsItWas(t *testing.T) {
	for seed := range 60 {
		r := rand.New(rand.NewSource(int64(seed)))
		u := make1(t, 4)
		l := []api.Version{plain(some(r))}
		h := row(t, u, l[0], 0)
		var records []api.Handle // the oldest one first
		for range 1 + r.Intn(7) {
			x := plain(some(r))
			was, next, _ := u.Row(h)
			k := save(t, u, was, next, x)
			if e := u.Change(h, x, k); e != api.OK {
				t.Fatal(e)
			}
			l, records = append(l, x), append(records, k)
			if !slices.Equal(u.List(h), reversed(l)) {
				t.Fatal(u.List(h), l)
			}
		}
		n := len(records)
		for k := range n {
			a, b := u.Copy(), u.Copy()
			a.Free(records[n-1-k])
			b.Cut(records[n-1-k])
			if got := a.List(h); !slices.Equal(got, reversed(l)[:k+1]) {
				t.Fatalf("the record %d is given back: %v of %v", k, got, reversed(l))
			}
			if got := b.List(h); !slices.Equal(got, reversed(l)[:k+2]) {
				t.Fatalf("the record %d is cut off: %v of %v", k, got, reversed(l))
			}
		}
		for len(l) > 1 {
			was, record, _ := u.Row(h)
			older, next, is := u.Record(record, was)
			if e := u.Change(h, older, next); !is || e != api.OK || u.Free(record) != api.OK {
				t.Fatal(is, e)
			}
			l = l[:len(l)-1]
			if !slices.Equal(u.List(h), reversed(l)) || u.Used() != len(l) {
				t.Fatal(u.List(h), l, u.Used())
			}
		}
	}
}

func reversed(l []api.Version) []api.Version {
	l = slices.Clone(l)
	slices.Reverse(l)
	return l
}

// P18.2: a row whose records go round ends behind as many versions as slots are used.
func TestRound(t *testing.T) {
	u := make1(t, 4)
	old := save(t, u, v(1, "a"), 0, v(2, "a"))
	u.Free(old)
	k := save(t, u, v(1, "a"), old+1, v(2, "a"))
	h := row(t, u, v(2, "a"), k)
	if k != old+1 {
		t.Fatal("it does not name itself:", old, k)
	}
	if l := u.List(h); len(l) != 2 || u.Used() != 2 {
		t.Error(l)
	}
	row(t, u, v(1, ""), 0)
	if l := u.List(h); len(l) != 3 {
		t.Error(l)
	}
	if l := u.List(k); len(l) != 0 {
		t.Error("of what is no row:", l)
	}
}

// P18.1: what may not be; errors in their row.
func TestErrors(t *testing.T) {
	for _, c := range []api.Config{{}, config(-1), config(257)} {
		if u, e := undo.New(c); u != nil || e != api.ErrArg {
			t.Error(c, u, e)
		}
	}
	u, o := make1(t, 4), newWorld()
	h := row(t, u, v(1, "abcd"), 0)
	o.all, o.named[h] = []api.Handle{h}, slot{v: v(1, "abcd")}
	k := save(t, u, v(1, "ab"), 0, v(2, "abcd"))
	o.save(k, v(1, "ab"), 0, v(2, "abcd"))
	for _, x := range wrong() {
		if got, e := u.Make(x, 0); got != 0 || e != api.ErrArg {
			t.Errorf("Make(%+v): %v", x, e)
		}
		for _, h := range []api.Handle{h, k, 0} {
			if e := u.Change(h, x, 0); e != api.ErrArg {
				t.Errorf("Change(%+v): %v", x, e)
			}
		}
		if got, e := u.Save(x, 0, v(1, "")); got != 0 || e != api.ErrArg {
			t.Errorf("Save(%+v, ..): %v", x, e)
		}
		if got, e := u.Save(v(1, ""), 0, x); got != 0 || e != api.ErrArg {
			t.Errorf("Save(.., %+v): %v", x, e)
		}
	}
	for _, x := range []api.Handle{0, h - 1, k + 1, math.MaxUint64} {
		if u.Change(x, v(1, ""), 0) != api.ErrNone || u.Cut(x) != api.ErrNone || u.Free(x) != api.ErrNone {
			t.Errorf("of %x", x)
		}
	}
	if u.Change(k, v(1, ""), 0) != api.ErrNone || u.Cut(h) != api.ErrNone {
		t.Error("a record is no row, and a row no record")
	}
	if x, next, is := u.Record(h, v(2, "abcd")); x != (api.Version{}) || next != 0 || is {
		t.Error("a row is no record:", x)
	}
	o.check(t, u)
	if got, e := u.Make(api.Version{Writer: math.MaxInt, TS: math.MinInt, Value: "\x00\xff"}, math.MaxUint64); e != api.OK {
		t.Error(e)
	} else if x, record, is := u.Row(got); x != v(math.MaxInt, "\x00\xff") || record != math.MaxUint64 || !is {
		t.Error(x, record, is)
	}
}

// P18.1: the longest values; and an arena of such slots is full, when it is.
func TestFull(t *testing.T) {
	u := make1(t, 224) // slots of 256 bytes: one byte more, and a page has one less
	most := api.PageSize / (32 + 224) * api.MaxPages
	long, other := strings.Repeat("x", 224), strings.Repeat("y", 224)
	k := save(t, u, v(1, long), 0, v(2, other))
	if x, _, is := u.Record(k, v(9, other)); !is || x != v(1, long) {
		t.Error("the longest delta:", is)
	}
	for range most - 2 {
		row(t, u, v(1, long), 0)
	}
	h := row(t, u, v(1, long), k)
	if got, e := u.Make(v(1, ""), 0); got != 0 || e != api.ErrFull {
		t.Error(got, e)
	}
	if got, e := u.Save(v(1, ""), 0, v(7, "")); got != 0 || e != api.ErrFull || len(u.Segment(7)) != 0 || !slices.Equal(u.Segments(), []int{2}) {
		t.Error(got, e, u.Segments())
	}
	if _, e := u.Save(v(1, ""), 0, v(0, "")); e != api.ErrArg {
		t.Error("the row of the errors:", e)
	}
	if u.Used() != most || u.Free(h) != api.OK || u.Used() != most-1 {
		t.Error(u.Used())
	}
}

// P18.7, R1: what is told, and copies.
func TestApart(t *testing.T) {
	for turn := range 2 {
		u, o := make1(t, 4), newWorld()
		k := save(t, u, v(1, "abcd"), 0, v(2, "abXd"))
		o.save(k, v(1, "abcd"), 0, v(2, "abXd"))
		k2 := save(t, u, v(2, ""), k, v(2, "a"))
		o.save(k2, v(2, ""), k, v(2, "a"))
		h := row(t, u, v(2, "abXd"), k)
		o.all, o.named[h] = append(o.all, h), slot{v: v(2, "abXd"), next: k}
		u.Segment(2)[0] = 99
		u.Segments()[0] = 99
		u.List(h)[0].Value = "changed"
		o.check(t, u)
		b := u.Copy()
		if turn == 1 {
			u, b = b, u
		}
		save(t, u, v(3, ""), 0, v(2, "a"))
		save(t, u, v(3, ""), 0, v(5, "a"))
		u.Change(h, tomb(7), 0)
		o.check(t, b)
		u.Pop(2)
		u.Free(h)
		u.Cut(k2)
		o.check(t, b)
		if got, is := b.Pop(2); got != k || !is {
			t.Error(got, is)
		}
		if e := b.Change(h, v(9, "wxyz"), 0); e != api.OK {
			t.Error("the copy's config:", e)
		}
		if l := u.Segment(2); len(l) != 2 || l[0] != k2 {
			t.Error(l)
		}
	}
}

// P18.7: of however many records of a segment, both go their own way.
func TestCopiesOfSegments(t *testing.T) {
	for n := 1; n < 9; n++ {
		for turn := range 2 {
			u := make1(t, 4)
			var l []api.Handle
			for range n {
				l = append(l, save(t, u, v(1, ""), 0, v(2, "")))
			}
			b := u.Copy()
			if turn == 1 {
				u, b = b, u
			}
			u.Free(l[n/2])
			if got := b.Segment(2); !slices.Equal(got, l) {
				t.Fatalf("%d records: %v, not %v", n, got, l)
			}
			u, b = b, u.Copy()
			x, y := save(t, u, v(1, "a"), 0, v(2, "a")), save(t, b, v(1, "b"), 0, v(2, "b"))
			if got := u.Segment(2); !slices.Equal(got, append(slices.Clone(l), x)) {
				t.Fatalf("%d records: %v, not %v, %v", n, got, l, x)
			}
			if got := b.Segment(2); len(got) != n || got[n-1] != y {
				t.Fatalf("%d records: %v, not %v behind", n, got, y)
			}
			c := u.Copy()
			row(t, c, v(9, ""), 0) // so that the next handle is another one
			z, o := save(t, u, v(3, ""), 0, v(2, "")), save(t, c, v(4, "c"), 0, v(2, "c"))
			if a, b := u.Segment(2), c.Segment(2); z == o || len(a) != n+2 || a[n+1] != z || len(b) != n+2 || b[n+1] != o {
				t.Fatalf("%d records: %v, %v, not %v, %v behind", n, a, b, z, o)
			}
		}
	}
}

// R1: of nil.
func TestNil(t *testing.T) {
	var u *undo.Undos
	if h, e := u.Make(api.Version{}, 0); h != 0 || e != api.ErrNil {
		t.Error(h, e)
	}
	if h, e := u.Save(api.Version{}, 0, api.Version{}); h != 0 || e != api.ErrNil {
		t.Error(h, e)
	}
	if u.Change(1, api.Version{}, 0) != api.ErrNil || u.Cut(1) != api.ErrNil || u.Free(1) != api.ErrNil {
		t.Error("Change, Cut, Free")
	}
	if x, h, is := u.Row(1); x != (api.Version{}) || h != 0 || is {
		t.Error("Row")
	}
	if x, h, is := u.Record(1, v(1, "")); x != (api.Version{}) || h != 0 || is {
		t.Error("Record")
	}
	if h, is := u.Pop(1); h != 0 || is || len(u.Segment(1)) != 0 || len(u.Segments()) != 0 || len(u.List(1)) != 0 || u.Used() != 0 || u.Copy() != nil {
		t.Error("of nil")
	}
}

func TestExamples(t *testing.T) {
	u := make1(t, 4)
	r := row(t, u, v(1, "abcd"), 0)
	k := save(t, u, v(1, "abcd"), 0, v(2, "abXd"))
	u.Change(r, v(2, "abXd"), k)
	if l := u.List(r); !slices.Equal(l, []api.Version{v(2, "abXd"), v(1, "abcd")}) {
		t.Error(l)
	}
	if l := u.Segment(2); !slices.Equal(l, []api.Handle{k}) {
		t.Error(l)
	}
	if x, next, is := u.Record(k, v(2, "abXd")); x != v(1, "abcd") || next != 0 || !is {
		t.Error(x, next, is)
	}
	if _, _, is := u.Record(k, v(2, "a")); is {
		t.Error("by another value")
	}
	if h, is := u.Pop(2); h != k || !is {
		t.Error(h, is)
	}
	if l := u.List(r); !slices.Equal(l, []api.Version{v(2, "abXd")}) || u.Used() != 1 {
		t.Error(l, u.Used())
	}
}
