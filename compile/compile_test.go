package compile_test

import (
	"math"
	"math/rand"
	"slices"
	"testing"

	"ferryman/api"
	"ferryman/compile"
	"ferryman/event"
	"ferryman/model"
	"ferryman/replay"
	"ferryman/store"
	"ferryman/turns"
)

// run tells by the words the run that comes of choices.
func run(c api.Config, programs [][]api.Call, choices []int) []api.Event {
	m, _ := model.New(c)
	var l []api.Event
	told, seen := map[int]api.Answer{}, map[int]int{}
	for _, task := range choices {
		n := seen[task]
		if task < 0 || task >= len(programs) || n/3 >= len(programs[task]) {
			continue
		}
		e := api.Event{What: uint8(1 + n%3), Task: task, Call: n / 3}
		if e.What == api.Mark {
			told[task] = m.Do(task, programs[task][n/3])
		}
		if e.What == api.Return {
			e.Answer = told[task]
		}
		seen[task]++
		l = append(l, e)
	}
	return l
}

func tasks(l []api.Event) []int {
	var out []int
	for _, e := range l {
		out = append(out, e.Task)
	}
	return out
}

// marks tells the calls in the row of their Marks.
func marks(l []api.Event) []event.Place {
	var out []event.Place
	for _, e := range l {
		if e.What == api.Mark {
			out = append(out, event.Place{Task: e.Task, Call: e.Call})
		}
	}
	return out
}

// alike tells whether two histories are the same but for where Marks are.
func alike(a, b []api.Event) bool {
	return event.Same(event.Bare(a), event.Bare(b)) && slices.Equal(marks(a), marks(b))
}

// P31.1, P31.3: what was chosen.
func TestFree(t *testing.T) {
	for seed := range 600 {
		r := rand.New(rand.NewSource(int64(seed)))
		c := turns.Config(r.Intn)
		p := turns.Programs(r.Intn, c, 12)
		l := turns.Picks(r.Intn, c, r.Intn(100))
		for k := range l {
			if r.Intn(10) == 0 {
				l[k] = []int{math.MinInt, -1, c.Tasks, math.MaxInt}[r.Intn(4)]
			}
		}
		before := slices.Clone(l)
		got, e := compile.Free(c, p, l)
		if want := run(c, p, l); e != api.OK || !event.Same(got, want) || !slices.Equal(l, before) {
			t.Fatalf("%v: %v, not %v, %v", l, got, want, e)
		}
		if at, e := replay.Check(c, p, got); at != -1 || e != api.OK {
			t.Fatalf("not right: %v", got)
		}
		if again, _ := compile.Free(c, p, tasks(got)); !event.Same(again, got) {
			t.Fatalf("by its tasks: %v, not %v", again, got)
		}
	}
}

// schedule tells by the words the schedule of a run.
func schedule(t *testing.T, c api.Config, home uint8, programs [][]api.Call, l []api.Event) []int {
	t.Helper()
	s, _ := store.New(c, home, programs)
	var picks []int
	pick := func(task int) {
		picks = append(picks, task)
		if !s.Pick(task) {
			t.Fatal("a pick does nothing")
		}
	}
	for _, e := range l {
		pick(e.Task)
		for e.What == api.Mark {
			_, marked, _ := s.Shop().Log.Under(e.Task)
			if marked && s.Rests(e.Task) {
				break
			}
			if pick(e.Task); len(picks) > 100000 {
				t.Fatal("it does not end")
			}
		}
	}
	if !alike(s.Events(), l) {
		t.Fatalf("the store has %v, not %v", s.Events(), l)
	}
	return picks
}

// P31.1, P31.4: of each run there is a schedule, by either home.
func TestOf(t *testing.T) {
	for seed := range 150 {
		r := rand.New(rand.NewSource(int64(seed)))
		c := turns.Config(r.Intn)
		p := turns.Programs(r.Intn, c, 10)
		l := run(c, p, turns.Picks(r.Intn, c, r.Intn(100)))
		for _, home := range []uint8{1, 2} {
			got, e := compile.Of(c, home, p, l)
			if want := schedule(t, c, home, p, l); e != api.OK || !slices.Equal(got, want) {
				t.Fatalf("%v: %v, %v, not %v", l, got, e, want)
			}
			s, _ := store.New(c, home, p)
			if n := s.Run(got); n != len(got) || !alike(s.Events(), l) {
				t.Fatalf("by the schedule: %v, not %v", s.Events(), l)
			}
		}
	}
}

// P31.5: of each schedule.
func TestOfEachSchedule(t *testing.T) {
	for seed := range 150 {
		r := rand.New(rand.NewSource(int64(seed)))
		c := turns.Config(r.Intn)
		p := turns.Programs(r.Intn, c, 15)
		home := uint8(1 + seed%2)
		one, _ := store.New(c, home, p)
		one.Run(turns.Picks(r.Intn, c, r.Intn(1500)))
		l := one.Events()
		picks, e := compile.Of(c, 3-home, p, l)
		other, _ := store.New(c, 3-home, p)
		if n := other.Run(picks); e != api.OK || n != len(picks) || !alike(other.Events(), l) {
			t.Fatalf("%v: %v, %v", l, other.Events(), e)
		}
	}
}

// P31.1: errors, in their row.
func TestErrors(t *testing.T) {
	c := api.Config{Tasks: 2, Active: 1, Keys: 1, Depth: 2, TS: 1, KeyLen: 1, Fan: 3}
	p := [][]api.Call{{{Kind: api.Begin}}}
	right := run(c, p, []int{0, 0, 0})
	wrong := slices.Clone(right)
	wrong[2].Answer.Found = true
	form := right[1:]
	long := [][]api.Call{make([]api.Call, 65)}
	for k, x := range []struct {
		c    api.Config
		home uint8
		p    [][]api.Call
		l    []api.Event
		want api.Errno
	}{
		{api.Config{}, 1, nil, nil, api.ErrArg}, {c, 1, long, form, api.ErrArg}, {c, 1, make([][]api.Call, 3), wrong, api.ErrArg},
		{c, 0, p, form, api.ErrArg}, {c, 3, p, wrong, api.ErrArg},
		{c, 1, p, form, api.ErrForm}, {c, 2, p, wrong, api.ErrState}, {c, 1, nil, right, api.ErrForm}, {c, 2, p, right, api.OK},
	} {
		got, e := compile.Of(x.c, x.home, x.p, x.l)
		if e != x.want || e != api.OK && len(got) != 0 {
			t.Errorf("%d: %v, %v", k, got, e)
		}
		if want := x.want; x.home == 1 || x.home == 2 {
			a, b, d, e := compile.Ferried(x.c, x.p, x.l, []compile.Put{{Engine: 1}})
			if e != want || e != api.OK && len(a)+len(b)+len(d) != 0 {
				t.Errorf("Ferried, %d: %v, %v, %v, %v", k, a, b, d, e)
			}
		}
	}
	for _, x := range []struct {
		c api.Config
		p [][]api.Call
	}{{api.Config{}, nil}, {c, long}, {c, make([][]api.Call, 3)}} {
		if l, e := compile.Free(x.c, x.p, []int{0}); len(l) != 0 || e != api.ErrArg {
			t.Error("Free:", l, e)
		}
	}
}

// puts are some Migrates that are to be put in; some may not be.
func puts(r *rand.Rand, c api.Config, n int) []compile.Put {
	var l []compile.Put
	for range n {
		x := compile.Put{Task: r.Intn(c.Tasks), Call: r.Intn(12), Engine: uint8(1 + r.Intn(2)), At: r.Intn(15)}
		switch r.Intn(20) {
		case 0:
			x.Task = []int{-1, c.Tasks, math.MaxInt, math.MinInt}[r.Intn(4)]
		case 1:
			x.Call = []int{-1, math.MaxInt, math.MinInt}[r.Intn(3)]
		case 2:
			x.Engine = []uint8{0, 3, 255}[r.Intn(3)]
		case 3:
			x.At = []int{-1, math.MaxInt, math.MinInt}[r.Intn(3)]
		}
		l = append(l, x)
	}
	return l
}

// fair are Migrates that may be put in, mostly: between a task's calls.
func fair(r *rand.Rand, l []api.Event, x *compile.Put) {
	if x.At < 0 || x.At > len(l) {
		return
	}
	n := 0
	for _, e := range l[:x.At] {
		if e.Task == x.Task && e.What == api.Return {
			n = e.Call + 1
		}
	}
	x.Call = n
}

// putIn tells by the words programs with one Migrate put in, and the run; no: it is left out.
func putIn(c api.Config, programs [][]api.Call, l []api.Event, x compile.Put) ([][]api.Call, []api.Event, bool) {
	if x.Engine != 1 && x.Engine != 2 || x.Task < 0 || x.Task >= len(programs) || x.At < 0 || x.At > len(l) {
		return nil, nil, false
	}
	n := len(programs[x.Task])
	if x.Call < 0 || x.Call > n || n >= api.MaxCalls {
		return nil, nil, false
	}
	var more [][]api.Call
	for task, program := range programs {
		program = slices.Clone(program)
		if task == x.Task {
			program = slices.Insert(program, x.Call, api.Call{Kind: api.Migrate, Engine: x.Engine})
		}
		more = append(more, program)
	}
	var out []api.Event
	for _, e := range l {
		if e.Task == x.Task && e.Call >= x.Call {
			e.Call++
		}
		out = append(out, e)
	}
	var own []api.Event
	for what := api.Invoke; what <= api.Return; what++ {
		own = append(own, api.Event{What: what, Task: x.Task, Call: x.Call})
	}
	out = slices.Insert(out, x.At, own...)
	if _, e := replay.Check(c, more, out); e != api.OK {
		return nil, nil, false
	}
	return more, out, true
}

// P31.2, P31.6: with ferries.
func TestFerried(t *testing.T) {
	in, left := 0, 0
	for seed := range 400 {
		r := rand.New(rand.NewSource(int64(seed)))
		c := turns.Config(r.Intn)
		p := turns.Programs(r.Intn, c, 10)
		l := run(c, p, turns.Picks(r.Intn, c, r.Intn(60)))
		list := puts(r, c, r.Intn(10))
		wantP, wantL := p, l
		want := map[event.Place]int{}
		for k := range list {
			if r.Intn(2) == 0 {
				fair(r, wantL, &list[k])
			}
			x := list[k]
			q, m, is := putIn(c, wantP, wantL, x)
			if !is {
				left++
				continue
			}
			in++
			wantP, wantL = q, m
			next := map[event.Place]int{{Task: x.Task, Call: x.Call}: 1}
			for at := range want {
				if at.Task == x.Task && at.Call >= x.Call {
					at.Call++
				}
				next[at]++
			}
			want = next
		}
		before := event.Without(l, nil)
		gotP, gotL, places, e := compile.Ferried(c, p, l, list)
		if e != api.OK || !event.Same(gotL, wantL) || len(gotP) != len(p) || !slices.EqualFunc(gotP, wantP, func(a, b []api.Call) bool { return slices.Equal(a, b) }) {
			t.Fatalf("%v with %+v: %v, not %v, %v", l, list, gotL, wantL, e)
		}
		got := map[event.Place]int{}
		for _, at := range places {
			got[at]++
			if gotP[at.Task][at.Call].Kind != api.Migrate {
				t.Fatalf("%v is no Migrate, of %v", at, gotP)
			}
		}
		for at := range want {
			if got[at] != 1 || len(got) != len(want) {
				t.Fatalf("%v, not %v", places, want)
			}
		}
		if back := event.Without(gotL, places); !event.Same(back, l) || !event.Same(l, before) {
			t.Fatalf("without their events: %v, not %v", back, l)
		}
		for _, home := range []uint8{1, 2} {
			picks, e := compile.Of(c, home, gotP, gotL)
			s, _ := store.New(c, home, gotP)
			if n := s.Run(picks); e != api.OK || n != len(picks) || !alike(s.Events(), gotL) {
				t.Fatalf("by the schedule: %v, not %v, %v", s.Events(), gotL, e)
			}
		}
	}
	if in < 150 || left < 300 {
		t.Error("too few:", in, left)
	}
}

// P31.2: where a Migrate may be put in, and where not.
func TestWhereFerried(t *testing.T) {
	c := api.Config{Tasks: 3, Active: 3, Keys: 2, Depth: 2, TS: 5, KeyLen: 1, ValLen: 1, Fan: 3}
	full := make([]api.Call, api.MaxCalls)
	for k := range full {
		full[k] = api.Call{Kind: api.Vacuum}
	}
	p := [][]api.Call{{{Kind: api.Begin}, {Kind: api.Commit, Tx: 1}}, full}
	l := run(c, p, []int{0, 0, 0, 0, 0})
	for k, x := range []struct {
		put compile.Put
		is  bool
	}{
		{compile.Put{Task: 0, Call: 0, Engine: 1, At: 0}, true},
		{compile.Put{Task: 0, Call: 0, Engine: 1, At: 1}, false},
		{compile.Put{Task: 0, Call: 1, Engine: 2, At: 3}, true},
		{compile.Put{Task: 0, Call: 1, Engine: 2, At: 2}, false},
		{compile.Put{Task: 0, Call: 1, Engine: 2, At: 4}, false},
		{compile.Put{Task: 0, Call: 2, Engine: 2, At: 5}, false},
		{compile.Put{Task: 0, Call: 0, Engine: 1, At: 6}, false},
		{compile.Put{Task: 0, Call: 0, Engine: 1, At: -1}, false},
		{compile.Put{Task: 0, Call: 3, Engine: 1, At: 5}, false},
		{compile.Put{Task: 0, Call: -1, Engine: 1, At: 0}, false},
		{compile.Put{Task: 0, Call: 0, Engine: 0, At: 0}, false},
		{compile.Put{Task: 0, Call: 0, Engine: 3, At: 0}, false},
		{compile.Put{Task: 1, Call: 0, Engine: 1, At: 0}, false},
		{compile.Put{Task: 2, Call: 0, Engine: 1, At: 0}, false},
		{compile.Put{Task: -1, Call: 0, Engine: 1, At: 0}, false},
	} {
		_, out, places, e := compile.Ferried(c, p, l, []compile.Put{x.put})
		if e != api.OK || (len(places) == 1) != x.is || len(out) != len(l)+3*len(places) {
			t.Errorf("%d: %v, %v, %v", k, out, places, e)
		}
	}
	empty := [][]api.Call{nil}
	if q, out, places, e := compile.Ferried(c, empty, nil, []compile.Put{{Engine: 2}, {Engine: 1, Call: 1, At: 3}}); e != api.OK || len(places) != 2 || len(out) != 6 || len(q) != 1 || len(q[0]) != 2 {
		t.Error("of no calls:", q, out, places, e)
	}
	if q, _, places, _ := compile.Ferried(c, empty, nil, []compile.Put{{Engine: 2}, {Engine: 1}}); !slices.Equal(q[0], []api.Call{{Kind: api.Migrate, Engine: 1}, {Kind: api.Migrate, Engine: 2}}) || len(places) != 2 {
		t.Error("one ahead of the other:", q, places)
	}
}

// R1: what is handed in stays; what is told shares no memory.
func TestApart(t *testing.T) {
	c := api.Config{Tasks: 1, Active: 1, Keys: 2, Depth: 2, TS: 5, KeyLen: 1, ValLen: 1, Fan: 3}
	p := [][]api.Call{{{Kind: api.Begin}, {Kind: api.Put, Tx: 1, Key: "a", Value: "1"}, {Kind: api.Scan, Tx: 1, Limit: 5}}}
	l, _ := compile.Free(c, p, make([]int, 9))
	before := event.Without(l, nil)
	for _, list := range [][]compile.Put{nil, {{Engine: 1}}} {
		q, out, _, _ := compile.Ferried(c, p, l, list)
		out[len(out)-1].Answer.Pairs[0].Value = "changed"
		out[0].Task = 9
		q[0][0].Kind, q[0][1].Kind = 77, 77
	}
	if !event.Same(l, before) || p[0][0].Kind != api.Begin || p[0][1].Kind != api.Put {
		t.Error("memory is shared:", l, p)
	}
}

func TestExamples(t *testing.T) {
	c := api.Config{Tasks: 2, Active: 2, Keys: 1, Depth: 2, TS: 1, KeyLen: 1, Fan: 3}
	p := [][]api.Call{{{Kind: api.Begin}}, {{Kind: api.Begin}}}
	l, e := compile.Free(c, p, []int{0, 1, 1, 0, 0})
	if want := []api.Event{{What: 1}, {What: 1, Task: 1}, {What: 2, Task: 1}, {What: 2}, {What: 3}}; e != api.OK || !event.Same(l, want) {
		t.Error(l, e)
	}
	if picks, e := compile.Of(c, 1, p, l); e != api.OK || !slices.Equal(picks, []int{0, 1, 1, 1, 0, 0, 0}) {
		t.Error(picks, e)
	}
	q, out, places, e := compile.Ferried(c, p, l, []compile.Put{{Task: 1, Call: 0, Engine: api.Undo, At: 1}})
	if e != api.OK || !slices.Equal(q[1], []api.Call{{Kind: api.Migrate, Engine: api.Undo}, {Kind: api.Begin}}) || !slices.Equal(places, []event.Place{{Task: 1, Call: 0}}) {
		t.Error(q, places, e)
	}
	want := []api.Event{{What: 1}, {What: 1, Task: 1}, {What: 2, Task: 1}, {What: 3, Task: 1}, {What: 1, Task: 1, Call: 1}, {What: 2, Task: 1, Call: 1}, {What: 2}, {What: 3}}
	if !event.Same(out, want) {
		t.Error(out)
	}
}
