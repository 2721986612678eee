package row_test

import (
	"fmt"
	"math/rand"
	"slices"
	"testing"

	"ferryman/api"
	"ferryman/bits"
	"ferryman/keep"
	"ferryman/latch"
	"ferryman/row"
	"ferryman/turns"
	"ferryman/view"
)

func config() api.Config {
	return api.Config{Tasks: 2, Active: 8, Keys: 8, Depth: 8, TS: 1000, KeyLen: 4, ValLen: 4, Fan: 3}
}

func make1(t *testing.T, home uint8) *row.Shop {
	t.Helper()
	s, e := row.New(config(), home)
	if e != api.OK || s == nil {
		t.Fatal("New:", e)
	}
	return s
}

func anchor(t *testing.T, s *row.Shop, engine uint8, h api.Handle) api.Handle {
	t.Helper()
	a, e := s.Make(engine, h)
	if e != api.OK || a == 0 {
		t.Fatal("Make:", a, e)
	}
	return a
}

func v(w int, value string) api.Version { return api.Version{Writer: w, Value: value} }
func tomb(w int) api.Version            { return api.Version{Writer: w, Tomb: true} }

// collect collects a row; in how many steps.
func collect(t *testing.T, s *row.Shop, a api.Handle) (row.Row, int) {
	t.Helper()
	c := row.NewCollect(a)
	for n := 1; n < 100; n++ {
		before := c.Row()
		done := c.Step(s)
		if k := len(c.Row().Slots); k != len(c.Row().Versions) || k > len(before.Slots)+1 || n == 1 && k != 0 {
			t.Fatalf("the step %d collected %v, behind %v", n, c.Row(), before)
		}
		if done {
			r := c.Row()
			if !c.Step(s) || !same(c.Row(), r) {
				t.Fatal("a step more")
			}
			return r, n
		}
	}
	t.Fatal("it does not end")
	return row.Row{}, 0
}

// run does a plan; in how many steps.
func run(t *testing.T, s *row.Shop, p *row.Plan) int {
	t.Helper()
	all := p.Len()
	for n := 1; p.Len() > 0; n++ {
		if done := p.Step(s); done != (n == all) || p.Len() != all-n {
			t.Fatalf("the step %d of %d: done %v, %d left", n, all, done, p.Len())
		}
	}
	if !p.Step(s) || p.Len() != 0 {
		t.Fatal("a step more")
	}
	return all
}

func same(a, b row.Row) bool {
	return a.Anchor == b.Anchor && a.Engine == b.Engine && slices.Equal(a.Slots, b.Slots) && slices.Equal(a.Versions, b.Versions)
}

func clone(r row.Row) row.Row {
	r.Slots, r.Versions = slices.Clone(r.Slots), slices.Clone(r.Versions)
	return r
}

// plain is a list without timestamps.
func plain(l []api.Version) []api.Version {
	l = slices.Clone(l)
	for k := range l {
		l[k].TS = 0
	}
	return l
}

func used(s *row.Shop) int { return s.A.Used() + s.B.Used() }

// told is what stands in a shop's arenas, for the handles that are told.
func told(s *row.Shop, anchors []api.Handle) string {
	out := fmt.Sprint(s.Anchors.Used(), s.A.Used(), s.B.Used(), s.B.Segments())
	for _, w := range s.B.Segments() {
		out += fmt.Sprint(s.B.Segment(w))
	}
	for _, a := range anchors {
		engine, h, is := s.Anchor(a)
		out += fmt.Sprint("|", engine, h, is, s.A.List(h), s.B.List(h))
	}
	return out
}

// P19.1: what a shop is made of.
func TestNew(t *testing.T) {
	for _, home := range []uint8{0, 3, 255} {
		if s, e := row.New(config(), home); s != nil || e != api.ErrArg {
			t.Error(home, s, e)
		}
	}
	c := config()
	c.Fan = 9
	if s, e := row.New(c, 1); s != nil || e != api.ErrArg {
		t.Error(s, e)
	}
	if s, e := row.New(api.Config{}, 1); s != nil || e != api.ErrArg {
		t.Error(s, e)
	}
	for _, home := range []uint8{1, 2} {
		s := make1(t, home)
		if s.C != config() || s.Table.Home() != home || s.Latches.All() != 0 || s.Tree.Fan() != 3 || len(s.Tree.Keys()) != 0 || s.Anchors.Slot() != 9 || s.Anchors.Used() != 0 || used(s) != 0 {
			t.Error("of nothing:", s)
		}
		if a, b := s.Log.Invoke(1), s.Log.Invoke(2); a != api.OK || b != api.ErrArg {
			t.Error("the recorder's tasks:", a, b)
		}
		if _, e := s.A.Make(v(1, "abcd"), 0); e != api.OK {
			t.Error(e)
		}
		if _, e := s.B.Make(v(1, "abcde"), 0); e != api.ErrArg {
			t.Error(e)
		}
	}
}

// P19.1: anchors, and how they stand in their slots.
func TestAnchors(t *testing.T) {
	s := make1(t, 1)
	for _, engine := range []uint8{0, 3, 255} {
		if h, e := s.Make(engine, 5); h != 0 || e != api.ErrArg {
			t.Error(engine, h, e)
		}
		if e := s.Set(0, engine, 5); e != api.ErrArg {
			t.Error("the row of the errors:", e)
		}
	}
	a, b := anchor(t, s, 1, 0), anchor(t, s, 2, bits.Handle(3, 4, 5))
	check := func(h api.Handle, engine uint8, r api.Handle) {
		t.Helper()
		if e, x, is := s.Anchor(h); e != engine || x != r || !is {
			t.Error(h, e, x, is)
		}
		raw, _ := s.Anchors.Read(h)
		if n, _ := bits.Get64([]byte(raw), 1); len(raw) != 9 || raw[0] != engine || api.Handle(n) != r {
			t.Errorf("%q", raw)
		}
	}
	check(a, 1, 0)
	check(b, 2, bits.Handle(3, 4, 5))
	if e := s.Set(a, 2, 77); e != api.OK {
		t.Error(e)
	}
	check(a, 2, 77)
	check(b, 2, bits.Handle(3, 4, 5))
	if e := s.Gone(a); e != api.OK || s.Gone(a) != api.ErrNone || s.Set(a, 1, 1) != api.ErrNone || s.Gone(0) != api.ErrNone || s.Set(a+9, 1, 1) != api.ErrNone {
		t.Error(e)
	}
	for _, h := range []api.Handle{a, 0, b + 1} {
		if e, x, is := s.Anchor(h); e != 0 || x != 0 || is {
			t.Error(h, e, x, is)
		}
	}
	for range api.MaxPages*(api.PageSize/9) - 1 {
		if _, e := s.Make(1, 0); e != api.OK {
			t.Fatal(e)
		}
	}
	if h, e := s.Make(2, 0); h != 0 || e != api.ErrFull {
		t.Error(h, e)
	}
	if h, e := s.Make(3, 0); h != 0 || e != api.ErrArg {
		t.Error("the row of the errors:", h, e)
	}
}

// some is some version; the values have much in common.
func some(r *rand.Rand, w int) api.Version {
	if r.Intn(4) == 0 {
		return tomb(w)
	}
	return v(w, []string{"", "a", "abcd", "abXd", "bcd", "aaaa"}[r.Intn(6)])
}

// slots tells how many steps each plan has, by the words.
func moveSteps(slots, k int, to uint8) int {
	n := k + 1 + slots
	if to == api.Undo && k > 0 {
		n += k - 1
	}
	return n
}

func putSteps(engine uint8, slots int, own bool) int {
	own = own && slots > 0
	switch {
	case engine == api.Chains && own, engine == api.Undo && own && slots == 1:
		return 1
	case engine == api.Undo && own:
		return 3
	}
	return 2
}

// P19.3 to P19.5: what is collected behind plans is the list to which the same was done; slots in the midst.
func TestAsLists(t *testing.T) {
	for seed := range 80 {
		r := rand.New(rand.NewSource(int64(seed)))
		s := make1(t, 1)
		engine := uint8(1 + r.Intn(2))
		a := anchor(t, s, engine, 0)
		other := anchor(t, s, uint8(1+r.Intn(2)), 0)
		o, _ := collect(t, s, other)
		run(t, s, row.Put(o, v(50, "else"), false))
		kept, _ := collect(t, s, other)
		var l []api.Version
		for w := 1; w < 60; w++ {
			x, n := collect(t, s, a)
			if n != len(l)+1 || x.Anchor != a || x.Engine != engine || !slices.Equal(plain(x.Versions), l) {
				t.Fatalf("collected in %d steps: %v, not %v of %d", n, x, l, engine)
			}
			was, handed := clone(x), clone(x)
			rest := used(s) - len(l)
			if rest != 1 {
				t.Fatal("slots:", used(s), l)
			}
			before, most, want := len(l), 0, 0
			var p *row.Plan
			left := row.Row{Slots: nil}
			keeps := true
			switch k := r.Intn(len(l)+4) - 1; r.Intn(8) {
			case 0, 1, 2, 3:
				version, own := some(r, w), r.Intn(3) == 0
				p, keeps = row.Put(handed, version, own), false
				want = putSteps(engine, len(l), own)
				if own && len(l) > 0 {
					l = slices.Clone(l)
					l[0] = version
				} else {
					l = append([]api.Version{version}, l...)
				}
			case 4:
				p, left = row.Off(handed)
				if want = 2; len(l) == 0 {
					want = 0
				} else {
					l = l[1:]
				}
			case 5:
				p, left = row.Sweep(handed, k)
				k = max(0, min(k, len(l)))
				if want = 1 + len(l) - k; k == len(l) {
					want = 0
				}
				l = l[:k]
			default:
				p, keeps = row.Move(handed, k, 3-engine), false
				k = max(0, min(k, len(l)))
				engine = 3 - engine
				want = moveSteps(len(l), k, engine)
				l, most = l[:k], len(l)+k
			}
			if !same(handed, was) {
				t.Fatal("what was handed in is otherwise now")
			}
			for k := range handed.Slots {
				handed.Slots[k], handed.Versions[k] = 99, v(99, "99")
			}
			if most == 0 {
				most = max(before, len(l)) + 1
			}
			if p.Len() != want {
				t.Fatalf("%d steps, not %d, of %v in %d", p.Len(), want, was, engine)
			}
			for p.Len() > 0 {
				p.Step(s)
				if n := used(s) - 1; n > most {
					t.Fatalf("%d slots in the midst, of %d, of %v to %v", n, most, was, l)
				}
			}
			x, _ = collect(t, s, a)
			if used(s) != len(l)+1 || !slices.Equal(plain(x.Versions), l) {
				t.Fatalf("%d slots, %v, not %v", used(s), x, l)
			}
			if keeps && !same(x, left) {
				t.Fatalf("the row behind it: %v, not %v", left, x)
			}
			if now, _ := collect(t, s, other); !same(now, kept) {
				t.Fatal("another row is otherwise now:", now)
			}
		}
	}
}

// act is a step of a plan: by how many slots of each engine are more, and whether the anchor is another one.
type act struct {
	a, b     int
	anchored bool
}

func acts(s *row.Shop, a api.Handle, p *row.Plan) []act {
	var l []act
	for p.Len() > 0 {
		x, y := s.A.Used(), s.B.Used()
		e, h, _ := s.Anchor(a)
		p.Step(s)
		f, k, _ := s.Anchor(a)
		l = append(l, act{s.A.Used() - x, s.B.Used() - y, e != f || h != k})
	}
	return l
}

// P19.3: what each step does.
func TestSteps(t *testing.T) {
	for _, engine := range []uint8{1, 2} {
		is := func(more int) act { // a slot more, or less, of the row's engine
			if engine == 1 {
				return act{a: more}
			}
			return act{b: more}
		}
		was := func(more int) act {
			x := is(more)
			return act{a: x.b, b: x.a}
		}
		set := act{anchored: true}
		s := make1(t, 1)
		a := anchor(t, s, engine, 0)
		check := func(what string, got []act, want ...act) {
			t.Helper()
			if !slices.Equal(got, want) {
				t.Errorf("engine %d, %s: %v, not %v", engine, what, got, want)
			}
		}
		collected := func() row.Row {
			r, _ := collect(t, s, a)
			return r
		}
		check("the first one", acts(s, a, row.Put(collected(), v(1, "a"), true)), is(1), set)
		check("alone, its own", acts(s, a, row.Put(collected(), v(1, "b"), true)), act{})
		two := []act{is(1), {}}
		if engine == 1 {
			two[1] = set
		}
		check("the second one", acts(s, a, row.Put(collected(), v(2, "c"), false)), two...)
		own := []act{is(1), {}, is(-1)}
		if engine == 1 {
			own = []act{{}}
		}
		check("its own", acts(s, a, row.Put(collected(), v(2, "d"), true)), own...)
		check("the third one", acts(s, a, row.Put(collected(), v(3, "e"), false)), two...)
		off := []act{{}, is(-1)}
		if engine == 1 {
			off[0] = set
		}
		p, _ := row.Off(collected())
		check("off", acts(s, a, p), off...)
		run(t, s, row.Put(collected(), v(4, "f"), false))
		p, _ = row.Sweep(collected(), 2)
		check("to two", acts(s, a, p), act{}, is(-1))
		p, _ = row.Sweep(collected(), 1)
		check("to one", acts(s, a, p), act{}, is(-1))
		run(t, s, row.Put(collected(), v(5, "g"), false))
		move := []act{was(1), was(1), {}, set, is(-1), is(-1)}
		if engine == 2 {
			move = []act{was(1), was(1), set, is(-1), is(-1)}
		}
		check("moved", acts(s, a, row.Move(collected(), 2, 3-engine)), move...)
		run(t, s, row.Move(collected(), 2, engine))
		check("moved, none", acts(s, a, row.Move(collected(), 0, 3-engine)), set, is(-1), is(-1))
		check("moved, of nothing", acts(s, a, row.Move(collected(), 5, engine)), set)
		run(t, s, row.Put(collected(), v(6, "h"), false))
		run(t, s, row.Put(collected(), v(7, "i"), false))
		p, _ = row.Sweep(collected(), 0)
		check("to none", acts(s, a, p), set, is(-1), is(-1))
		run(t, s, row.Put(collected(), v(8, "j"), false))
		p, _ = row.Off(collected())
		check("the last one off", acts(s, a, p), set, is(-1))
		if used(s) != 0 {
			t.Error("slots are left:", used(s))
		}
	}
}

// P19.3: the newest one goes first, where slots are given back.
func TestNewestFirst(t *testing.T) {
	for _, engine := range []uint8{1, 2} {
		s := make1(t, 1)
		a := anchor(t, s, engine, 0)
		for w := 1; w <= 5; w++ {
			r, _ := collect(t, s, a)
			run(t, s, row.Put(r, v(w, "abcd"[:w%5]), false))
		}
		r, _ := collect(t, s, a)
		there := func(s *row.Shop) []bool {
			var l []bool
			for k, h := range r.Slots {
				_, is := s.A.Read(h)
				if engine == 2 && k == 0 {
					_, _, is = s.B.Row(h)
				} else if engine == 2 {
					_, _, is = s.B.Record(h, r.Versions[k-1])
				}
				l = append(l, is)
			}
			return l
		}
		sweep, _ := row.Sweep(r, 2)
		for n := range 4 {
			sweep.Step(s)
			want := []bool{true, true, n < 1, n < 2, n < 3}
			if got := there(s); !slices.Equal(got, want) {
				t.Errorf("engine %d, swept: %v, not %v", engine, got, want)
			}
		}
		move := row.Move(r, 2, 3-engine)
		for move.Len() > 5 {
			move.Step(s)
		}
		for n := 1; move.Len() > 0; n++ {
			move.Step(s)
			if got := there(s); got[0] || n < 2 && !got[1] || n >= 2 && got[1] {
				t.Errorf("engine %d, moved: %v", engine, got)
			}
		}
	}
}

// reader is a transaction that sees.
type reader struct {
	w, snapshot int
	v           view.View
}

// P19.2, P19.6: what a transaction sees is the same in both engines, and what keep.Seen tells; in how many steps; and what is stamped.
func TestSee(t *testing.T) {
	for seed := range 60 {
		r := rand.New(rand.NewSource(int64(seed)))
		s := make1(t, 1)
		a, b := anchor(t, s, 1, 0), anchor(t, s, 2, 0)
		var readers []reader
		var l []api.Version // with timestamps, 0: not committed
		begin := func() int {
			w, e := s.Table.Begin()
			if e != api.OK {
				return 0
			}
			snapshot, _ := s.Table.Snapshot(w)
			x, _ := s.Table.View(w)
			readers = append(readers, reader{w, snapshot, x})
			return w
		}
		for range 2 + r.Intn(6) {
			for range r.Intn(2) {
				begin()
			}
			w := begin()
			if w == 0 || s.Table.Judge(w, "k", plain(l), false).Err != api.OK {
				break
			}
			x := some(r, w)
			for _, h := range []api.Handle{a, b} {
				c, _ := collect(t, s, h)
				run(t, s, row.Put(c, x, false))
			}
			l = append([]api.Version{x}, l...)
			if r.Intn(6) == 0 {
				break
			}
			s.Table.Commit(w)
			readers = slices.DeleteFunc(readers, func(x reader) bool { return x.w == w })
			l[0].TS, _ = s.Table.TS(w)
		}
		for range 3 {
			for _, x := range readers {
				steps, stamps := chainSteps(t, s, a, x, l)
				got, is, n := see(t, s, a, x)
				if n != steps {
					t.Fatalf("chains: %d steps, not %d, by %v of %v", n, steps, x, l)
				}
				want, has := seen(x, l)
				if is != has || got.Writer != want.Writer || got.Value != want.Value || got.Tomb {
					t.Fatalf("chains: %v, %v, not %v, by %v of %v", got, is, want, x, l)
				}
				c, _ := collect(t, s, a)
				for k := range c.Versions {
					if c.Versions[k].TS != stamps[k] {
						t.Fatalf("stamped: %v, not %v", c.Versions, stamps)
					}
				}
				got, is, n = see(t, s, b, x)
				if is != has || got.Writer != want.Writer || got.Value != want.Value {
					t.Fatalf("undo: %v, %v, not %v, by %v of %v", got, is, want, x, l)
				}
				if n != undoSteps(x, l) {
					t.Fatalf("undo: %d steps, not %d", n, undoSteps(x, l))
				}
				if r.Intn(3) == 0 && len(l) > 0 { // a stamp, by somebody else
					k := r.Intn(len(c.Slots))
					if l[k].TS > 0 {
						s.A.Stamp(c.Slots[k], l[k].TS)
					}
				}
			}
		}
	}
}

// see has a transaction see a row; in how many steps.
func see(t *testing.T, s *row.Shop, a api.Handle, x reader) (api.Version, bool, int) {
	t.Helper()
	e := row.NewSee(a, x.w, x.snapshot, x.v)
	for n := 1; n < 100; n++ {
		if got, is := e.Seen(); got != (api.Version{}) || is {
			t.Fatal("seen, ahead of its end:", got)
		}
		if e.Step(s) {
			got, is := e.Seen()
			if !e.Step(s) {
				t.Fatal("a step more")
			}
			if again, has := e.Seen(); again != got || has != is {
				t.Fatal("a step more:", again)
			}
			return got, is, n
		}
	}
	t.Fatal("it does not end")
	return api.Version{}, false, 0
}

// seen tells what keep.Seen does, and what is its own.
func seen(x reader, l []api.Version) (api.Version, bool) {
	if len(l) > 0 && l[0].Writer == x.w {
		if l[0].Tomb {
			return api.Version{}, false
		}
		return l[0], true
	}
	if len(l) > 0 && l[0].TS == 0 {
		l = l[1:]
	}
	return keep.Seen(l, x.snapshot)
}

// chainSteps tells by the words in how many steps a chain is seen, and which timestamps stand in it behind that.
func chainSteps(t *testing.T, s *row.Shop, a api.Handle, x reader, l []api.Version) (int, []int) {
	t.Helper()
	c, _ := collect(t, s, a)
	var stamps []int
	for _, version := range c.Versions {
		stamps = append(stamps, version.TS)
	}
	n := 1
	for k, version := range c.Versions {
		n++
		if version.Writer == x.w {
			break
		}
		if version.TS == 0 {
			if n++; l[k].TS > 0 {
				n++
				stamps[k] = l[k].TS
			}
		}
		if l[k].TS > 0 && l[k].TS <= x.snapshot {
			break
		}
	}
	return n, stamps
}

func undoSteps(x reader, l []api.Version) int {
	for k, version := range l {
		if view.Sees(x.v, version.Writer) {
			return k + 2
		}
	}
	return len(l) + 1
}

// P19.2: handles that name nothing, and rows of nothing.
func TestNothing(t *testing.T) {
	s := make1(t, 1)
	all := view.Of(9, 9, nil)
	check := func(a api.Handle, steps, slots int, engine uint8) {
		t.Helper()
		r, n := collect(t, s, a)
		if n != steps || len(r.Slots) != slots || r.Engine != engine || r.Anchor != a {
			t.Errorf("%v in %d steps", r, n)
		}
		if got, is, n := see(t, s, a, reader{9, 0, view.Of(9, 9, []int{1, 2, 3, 4, 5, 6, 7, 8})}); is || n != steps && engine != 1 {
			t.Errorf("seen: %v in %d steps", got, n)
		}
	}
	check(0, 1, 0, 0)
	check(77, 1, 0, 0)
	check(anchor(t, s, 1, 0), 1, 0, 1)
	check(anchor(t, s, 2, 0), 1, 0, 2)
	check(anchor(t, s, 1, 55), 2, 0, 1)
	check(anchor(t, s, 2, 55), 2, 0, 2)
	gone, _ := s.A.Make(v(1, "a"), 0)
	s.A.Free(gone)
	h, _ := s.A.Make(v(2, "b"), gone)
	check(anchor(t, s, 1, h), 3, 1, 1)
	record, _ := s.B.Save(v(1, "abcd"), 0, v(2, "abXd"))
	check(anchor(t, s, 2, record), 2, 0, 2) // a record is no row
	told, _ := s.B.Make(v(2, "abXd"), record)
	check(anchor(t, s, 2, told), 3, 2, 2)
	not, _ := s.B.Make(v(2, "a"), record) // it can't be told by that
	check(anchor(t, s, 2, not), 3, 1, 2)
	r, _ := s.B.Make(v(2, "abXd"), told) // a row is no record
	check(anchor(t, s, 2, r), 3, 1, 2)
	s.B.Free(record)
	check(anchor(t, s, 2, told), 3, 1, 2)
	if got, is, _ := see(t, s, anchor(t, s, 2, told), reader{9, 0, all}); !is || got != v(2, "abXd") {
		t.Error(got, is)
	}
	raw := anchor(t, s, 1, 0)
	s.Anchors.Write(raw, "\x07") // an engine that is none
	collect(t, s, raw)
	see(t, s, raw, reader{9, 0, all})
}

// P19.2: a tomb that is seen ends it, and is not told.
func TestTombSeen(t *testing.T) {
	for _, engine := range []uint8{1, 2} {
		s := make1(t, 1)
		a := anchor(t, s, engine, 0)
		for w := 1; w <= 2; w++ {
			s.Table.Begin()
			x := v(w, "old")
			if w == 2 {
				x = tomb(w)
			}
			r, _ := collect(t, s, a)
			s.Table.Judge(w, "k", r.Versions, w == 2)
			run(t, s, row.Put(r, x, false))
			s.Table.Commit(w)
		}
		steps := 2
		if engine == 1 {
			steps = 4
		}
		if got, is, n := see(t, s, a, reader{3, 2, view.Of(3, 3, nil)}); got != (api.Version{}) || is || n != steps {
			t.Errorf("engine %d: %v, %v, in %d steps", engine, got, is, n)
		}
		if got, is, _ := see(t, s, a, reader{2, 1, view.Of(2, 2, nil)}); got != (api.Version{}) || is {
			t.Errorf("engine %d, its own tomb: %v, %v", engine, got, is)
		}
		if got, is, _ := see(t, s, a, reader{3, 1, view.Of(3, 3, []int{2})}); got.Value != "old" || !is {
			t.Errorf("engine %d: %v, %v", engine, got, is)
		}
	}
}

// P19.7: records behind the first k that are given back between steps.
func TestGivenBack(t *testing.T) {
	for seed := range 200 {
		r := rand.New(rand.NewSource(int64(seed)))
		s := make1(t, 2)
		a := anchor(t, s, 2, 0)
		n := 1 + r.Intn(6)
		for w := 1; w <= n; w++ {
			c, _ := collect(t, s, a)
			run(t, s, row.Put(c, some(r, w), false))
		}
		whole, _ := collect(t, s, a)
		k := 1 + r.Intn(n)
		back := func() { // the records of the lesser writers go first
			if w := s.B.Segments(); len(w) > 0 && w[0] <= n-k+1 && r.Intn(2) == 0 {
				s.B.Pop(w[0])
			}
		}
		c := row.NewCollect(a)
		for back(); !c.Step(s); back() {
		}
		x := c.Row()
		if len(x.Slots) < k || !slices.Equal(x.Versions[:k], whole.Versions[:k]) || !slices.Equal(x.Slots[:k], whole.Slots[:k]) {
			t.Fatalf("collected %v, of %v, the first %d of which stand", x, whole, k)
		}
		if r.Intn(2) == 0 {
			p, left := row.Sweep(x, k)
			for back(); p.Len() > 0; back() {
				p.Step(s)
			}
			if !same(left, row.Row{Anchor: a, Engine: 2, Slots: whole.Slots[:k], Versions: whole.Versions[:k]}) {
				t.Fatal("the row behind it:", left)
			}
		} else {
			p := row.Move(x, k, 1)
			for back(); p.Len() > 0; back() {
				p.Step(s)
			}
		}
		for _, w := range s.B.Segments() {
			for w <= n-k+1 {
				if _, is := s.B.Pop(w); !is {
					break
				}
			}
		}
		if got, _ := collect(t, s, a); !slices.Equal(got.Versions, whole.Versions[:k]) || used(s) != k {
			t.Fatalf("%v, %d slots, not %v", got, used(s), whole.Versions[:k])
		}
	}
}

// P19.3: rows that may not be, engines that are none.
func TestNoSteps(t *testing.T) {
	s := make1(t, 1)
	h := anchor(t, s, 1, 0)
	one := []api.Handle{5}
	two := []api.Version{v(1, "a"), v(2, "b")}
	for _, r := range []row.Row{{}, {Anchor: h, Engine: 0, Slots: one, Versions: two[:1]}, {Anchor: h, Engine: 3, Slots: one, Versions: two[:1]}, {Anchor: h, Engine: 1, Slots: one, Versions: two}, {Anchor: h, Engine: 2, Slots: one}, {Anchor: h, Engine: 1, Versions: two}} {
		off, a := row.Off(r)
		sweep, b := row.Sweep(r, 0)
		for _, p := range []*row.Plan{off, sweep, row.Put(r, v(1, "x"), false), row.Put(r, v(1, "x"), true), row.Move(r, 1, 1), row.Move(r, 1, 2)} {
			if p.Len() != 0 || !p.Step(s) {
				t.Errorf("%v: %d steps", r, p.Len())
			}
		}
		if !same(a, r) || !same(b, r) {
			t.Error("the row as it is:", a, b)
		}
	}
	for _, engine := range []uint8{1, 2} {
		r := row.Row{Anchor: h, Engine: engine, Slots: one, Versions: two[:1]}
		for _, to := range []uint8{0, 3, 255, engine} {
			if n := row.Move(r, 1, to).Len(); n != 0 {
				t.Errorf("from %d to %d: %d steps", engine, to, n)
			}
		}
		none := row.Row{Anchor: h, Engine: engine}
		if p, left := row.Off(none); p.Len() != 0 || !same(left, none) {
			t.Error("Off of nothing")
		}
		for _, k := range []int{-5, 0, 1} {
			if p, left := row.Sweep(none, k); p.Len() != 0 || !same(left, none) {
				t.Error("Sweep of nothing")
			}
		}
		if n := row.Move(none, -5, 3-engine).Len(); n != 1 {
			t.Error("Move of nothing:", n)
		}
	}
	if used(s) != 0 {
		t.Error("something was done")
	}
}

// P19.3: what a step can't do it does not.
func TestCannot(t *testing.T) {
	long := v(1, "abcde") // it may not be in either engine
	for _, engine := range []uint8{1, 2} {
		s := make1(t, 1)
		a := anchor(t, s, engine, 0)
		r, _ := collect(t, s, a)
		if n := run(t, s, row.Put(r, long, false)); n != 2 || used(s) != 0 {
			t.Error(n, used(s))
		}
		if e, h, is := s.Anchor(a); e != engine || h != 0 || !is {
			t.Error("the anchor is another one:", e, h)
		}
		run(t, s, row.Put(r, v(1, "a"), false))
		r, _ = collect(t, s, a)
		run(t, s, row.Put(r, long, true))
		if now, _ := collect(t, s, a); !same(now, r) {
			t.Error(now)
		}
		run(t, s, row.Put(r, long, false))
		if now, _ := collect(t, s, a); !slices.Equal(plain(now.Versions), []api.Version{v(1, "a")}) || used(s) != 1 {
			t.Error(now, used(s))
		}
		bad := clone(r)
		bad.Versions[0] = long
		e, h, _ := s.Anchor(a)
		run(t, s, row.Move(bad, 1, 3-engine))
		if f, k, _ := s.Anchor(a); f != e || k != h || used(s) != 0 {
			t.Error("where it could not be made the anchor stays:", f, k, used(s))
		}
	}
	s := make1(t, 1) // an older one of a chain that can't be made is the handle 0
	a := anchor(t, s, 2, 0)
	r := row.Row{Anchor: a, Engine: 2, Slots: []api.Handle{1, 2}, Versions: []api.Version{v(2, "b"), long}}
	run(t, s, row.Move(r, 2, 1))
	if now, _ := collect(t, s, a); now.Engine != 1 || !slices.Equal(now.Versions, []api.Version{v(2, "b")}) {
		t.Error(now)
	}
	a = anchor(t, s, 1, 0) // a record that can't be made likewise
	r = row.Row{Anchor: a, Engine: 1, Slots: []api.Handle{7, 8, 9}, Versions: []api.Version{v(3, "c"), v(0, "b"), v(1, "a")}}
	run(t, s, row.Move(r, 3, 2))
	if now, _ := collect(t, s, a); now.Engine != 2 || !slices.Equal(now.Versions, []api.Version{v(3, "c")}) {
		t.Error(now)
	}
}

// P19.3: rows with handles of 0, which Off looks at, Put and Sweep do not.
func TestHandlesOfNothing(t *testing.T) {
	s := make1(t, 2)
	h, _ := s.B.Make(v(2, "b"), 0)
	a := anchor(t, s, 2, h)
	r := row.Row{Anchor: a, Engine: 2, Slots: []api.Handle{h, 0}, Versions: []api.Version{v(2, "b"), v(1, "a")}}
	if n := row.Put(r, v(2, "x"), true).Len(); n != 3 {
		t.Error("with a record:", n)
	}
	if p, left := row.Sweep(r, 1); p.Len() != 2 || len(left.Slots) != 1 {
		t.Error("with a record:", p.Len(), left)
	}
	p, _ := row.Off(r)
	if n := run(t, s, p); n != 2 {
		t.Error("without one:", n)
	}
	if _, k, _ := s.Anchor(a); k != 0 || used(s) != 0 {
		t.Error("the row's slot is given back, the anchor of nothing:", k, used(s))
	}
}

// P19.2, P19.3: a version's timestamp does not count in Put, nor is it kept in a Move.
func TestNoTimestamps(t *testing.T) {
	s := make1(t, 1)
	a := anchor(t, s, 1, 0)
	r, _ := collect(t, s, a)
	run(t, s, row.Put(r, api.Version{Writer: 1, TS: -7, Value: "a"}, false))
	r, _ = collect(t, s, a)
	if r.Versions[0] != v(1, "a") {
		t.Error(r)
	}
	run(t, s, row.Put(r, api.Version{Writer: 1, TS: api.MaxTS + 1, Value: "b"}, true))
	r, _ = collect(t, s, a)
	s.A.Stamp(r.Slots[0], 5)
	r, _ = collect(t, s, a)
	if r.Versions[0] != (api.Version{Writer: 1, TS: 5, Value: "b"}) {
		t.Error("those that stand in a chain's slots:", r)
	}
	run(t, s, row.Move(r, 1, 2))
	r, _ = collect(t, s, a)
	if r.Versions[0] != v(1, "b") {
		t.Error(r)
	}
	run(t, s, row.Move(r, 1, 1))
	if r, _ = collect(t, s, a); r.Versions[0] != v(1, "b") {
		t.Error(r)
	}
}

// P19.1, R1: what is told, and copies.
func TestApart(t *testing.T) {
	for turn := range 2 {
		s := make1(t, 1)
		a, b := anchor(t, s, 1, 0), anchor(t, s, 2, 0)
		for _, h := range []api.Handle{a, b} {
			for w := 1; w < 4; w++ {
				r, _ := collect(t, s, h)
				run(t, s, row.Put(r, v(w, "v"), false))
			}
		}
		s.Latches.Try(latch.Name{Kind: 3, ID: 1}, 1)
		s.Log.Invoke(0)
		s.Table.Begin()
		s.Tree.Insert("a", a)
		was, all := told(s, []api.Handle{a, b}), []api.Handle{a, b}
		k := s.Copy()
		if told(k, all) != was || k.C != s.C {
			t.Fatal("a copy tells something else")
		}
		if turn == 1 {
			s, k = k, s
		}
		r, _ := collect(t, s, a)
		run(t, s, row.Move(r, 2, 2))
		p, _ := row.Sweep(r, 0)
		p.Step(s)
		r, _ = collect(t, s, b)
		run(t, s, row.Put(r, tomb(7), false))
		anchor(t, s, 1, 5)
		s.Gone(a)
		s.Latches.Drop(latch.Name{Kind: 3, ID: 1}, 1)
		s.Log.Mark(0)
		s.Table.Begin()
		s.Tree.Insert("b", b)
		if told(k, all) != was || k.Latches.All() != 1 || len(k.Log.Events()) != 1 || k.Table.Active() != 1 || len(k.Tree.Keys()) != 1 {
			t.Fatal("what is done to the one is seen by the other")
		}
		c := row.NewCollect(b)
		if !turns.Till(func() bool { return c.Step(k) }) {
			t.Fatal("it does not end")
		}
		c.Row().Versions[0].Value, c.Row().Slots[0] = "changed", 99
		if c.Row().Versions[0] != v(3, "v") || c.Row().Slots[0] == 99 {
			t.Fatal("what was told is kept")
		}
		x := row.Row{Anchor: b, Engine: 2, Slots: []api.Handle{8, 9}, Versions: []api.Version{v(2, "b"), v(1, "a")}}
		_, left := row.Sweep(x, 2)
		left.Slots[0], left.Versions[0] = 77, v(7, "7")
		_, left = row.Off(x)
		left.Slots[0], left.Versions[0] = 77, v(7, "7")
		_, left = row.Sweep(x, 1)
		left.Slots[0], left.Versions[0] = 77, v(7, "7")
		if !slices.Equal(x.Slots, []api.Handle{8, 9}) || x.Versions[0] != v(2, "b") || x.Versions[1] != v(1, "a") {
			t.Fatal("what is told shares memory:", x)
		}
	}
	busy := view.View{Own: 9, High: 9, Busy: []int{1}}
	s := make1(t, 2)
	a := anchor(t, s, 2, 0)
	r, _ := collect(t, s, a)
	run(t, s, row.Put(r, v(1, "x"), false))
	e := row.NewSee(a, 9, 0, busy)
	busy.Busy[0] = 5
	if !turns.Till(func() bool { return e.Step(s) }) {
		t.Fatal("it does not end")
	}
	if got, is := e.Seen(); is {
		t.Error("what was handed in is kept:", got)
	}
}

// R1: of nil.
func TestNil(t *testing.T) {
	var s *row.Shop
	if h, e := s.Make(0, 1); h != 0 || e != api.ErrNil {
		t.Error(h, e)
	}
	if e, h, is := s.Anchor(1); e != 0 || h != 0 || is {
		t.Error(e, h, is)
	}
	if s.Set(1, 0, 1) != api.ErrNil || s.Gone(1) != api.ErrNil || s.Copy() != nil {
		t.Error("Set, Gone, Copy")
	}
	shop := make1(t, 1)
	var c *row.Collect
	var e *row.See
	var p *row.Plan
	if !c.Step(shop) || !same(c.Row(), row.Row{}) || !e.Step(shop) || !p.Step(shop) || p.Len() != 0 {
		t.Error("of nil")
	}
	if x, is := e.Seen(); x != (api.Version{}) || is {
		t.Error(x, is)
	}
	a := anchor(t, shop, 1, 0)
	c, e = row.NewCollect(a), row.NewSee(a, 1, 0, view.View{})
	p = row.Put(row.Row{Anchor: a, Engine: 1}, v(1, "a"), false)
	if !c.Step(nil) || !e.Step(nil) || !p.Step(nil) || p.Len() != 2 || c.Row().Engine != 0 {
		t.Error("of a nil shop")
	}
	run(t, shop, p)
	if !turns.Till(func() bool { return c.Step(shop) }) {
		t.Fatal("it does not end")
	}
	if !turns.Till(func() bool { return e.Step(shop) }) {
		t.Fatal("it does not end")
	}
	if x, is := e.Seen(); len(c.Row().Slots) != 1 || x != v(1, "a") || !is {
		t.Error("behind a nil shop:", c.Row(), x, is)
	}
}

// R1: of a shop without parts: nothing is there, and nothing can be done.
func TestNoParts(t *testing.T) {
	s := &row.Shop{}
	if _, e := s.Make(1, 0); e == api.OK || s.Set(1, 1, 0) == api.OK || s.Gone(1) == api.OK || s.Copy() == nil {
		t.Error("of no arena")
	}
	if r, n := collect(t, s, 1); n != 1 || len(r.Slots) != 0 {
		t.Error(r, n)
	}
	if _, is, n := see(t, s, 1, reader{1, 0, view.View{}}); is || n != 1 {
		t.Error("seen:", n)
	}
	for _, engine := range []uint8{1, 2} {
		r := row.Row{Anchor: 1, Engine: engine, Slots: []api.Handle{1, 2}, Versions: []api.Version{v(2, "b"), v(1, "a")}}
		off, _ := row.Off(r)
		sweep, _ := row.Sweep(r, 1)
		for _, p := range []*row.Plan{off, sweep, row.Put(r, v(3, "c"), true), row.Put(r, v(3, "c"), false), row.Move(r, 2, 3-engine)} {
			run(t, s, p)
		}
	}
}

func TestExamples(t *testing.T) {
	s := make1(t, 1)
	h := anchor(t, s, 1, 0)
	r, n := collect(t, s, h)
	if n != 1 || run(t, s, row.Put(r, v(1, "a"), false)) != 2 {
		t.Error(n)
	}
	if r, n = collect(t, s, h); n != 2 || !slices.Equal(r.Versions, []api.Version{v(1, "a")}) {
		t.Error(r, n)
	}
	if n := run(t, s, row.Put(r, v(2, "b"), false)); n != 2 {
		t.Error(n)
	}
	r, _ = collect(t, s, h)
	if n := run(t, s, row.Move(r, 2, api.Undo)); n != 6 {
		t.Error(n)
	}
	if r, n = collect(t, s, h); n != 3 || r.Engine != 2 {
		t.Error(r, n)
	}
	p, r := row.Off(r)
	if n := run(t, s, p); n != 2 || !slices.Equal(r.Versions, []api.Version{v(1, "a")}) {
		t.Error(r, n)
	}
	p, r = row.Sweep(r, 0)
	if n := run(t, s, p); n != 2 || len(r.Slots) != 0 || used(s) != 0 {
		t.Error(r, n)
	}
}
