package store_test

import (
	"fmt"
	"math"
	"math/rand"
	"slices"
	"testing"

	"ferryman/api"
	"ferryman/event"
	"ferryman/model"
	"ferryman/row"
	"ferryman/store"
	"ferryman/turns"
)

func make1(t *testing.T, c api.Config, home uint8, programs [][]api.Call) *store.Store {
	t.Helper()
	s, e := store.New(c, home, programs)
	if e != api.OK || s == nil {
		t.Fatal("New:", e)
	}
	return s
}

func same(a, b api.Answer) bool {
	return a.Err == b.Err && a.Found == b.Found && a.Value == b.Value && slices.Equal(a.Pairs, b.Pairs)
}

// byMarks holds the answers of a history against the model, in the row of the marks; and that it is of the programs.
func byMarks(t *testing.T, c api.Config, programs [][]api.Call, l []api.Event) *model.Model {
	t.Helper()
	if !event.Legal(c.Tasks, l) {
		t.Fatal("not legal:", l)
	}
	m, _ := model.New(c)
	told := map[event.Place]api.Answer{}
	for _, e := range l {
		if e.Task >= len(programs) || e.Call >= len(programs[e.Task]) {
			t.Fatal("not of the programs:", e)
		}
		at := event.Place{Task: e.Task, Call: e.Call}
		switch e.What {
		case api.Mark:
			told[at] = m.Do(e.Task, programs[e.Task][e.Call])
		case api.Return:
			if !same(e.Answer, told[at]) {
				t.Fatalf("%d, %+v: %+v, the model %+v", e.Task, programs[e.Task][e.Call], e.Answer, told[at])
			}
		}
	}
	return m
}

// rows tells whether the rows have just the model's versions and intents, and no other slot is used.
func rows(t *testing.T, s *row.Shop, m *model.Model) {
	t.Helper()
	keys := m.Keys()
	if !s.Tree.Legal() || !slices.Equal(s.Tree.Keys(), keys) || s.Anchors.Used() != len(keys) || s.A.Used()+s.B.Used() != m.Retained() || s.Latches.All() != 0 {
		t.Fatalf("%q, not %q; %d anchors, %d slots, not %d; %d latches", s.Tree.Keys(), keys, s.Anchors.Used(), s.A.Used()+s.B.Used(), m.Retained(), s.Latches.All())
	}
	for _, key := range keys {
		h, _ := s.Tree.Find(key)
		_, top, _ := s.Anchor(h)
		got := append(s.A.List(top), s.B.List(top)...)
		var want []api.Version
		if v, is := m.Intent(key); is {
			want = append(want, v)
		}
		want = append(want, m.Versions(key)...)
		if !slices.EqualFunc(got, want, func(a, b api.Version) bool { return a.Writer == b.Writer && a.Tomb == b.Tomb && a.Value == b.Value }) {
			t.Fatalf("%q has %v, not %v", key, got, want)
		}
	}
}

// finish picks all tasks by turns, till nothing is done.
func finish(t *testing.T, c api.Config, s *store.Store) {
	t.Helper()
	for range 100000 {
		done := false
		for task := range c.Tasks {
			done = s.Pick(task) || done
		}
		if !done {
			return
		}
	}
	t.Fatal("it does not end")
}

// P27.1 to P27.3, P27.5, P27.7: whatever config, home, programs, picks.
func TestOneModel(t *testing.T) {
	answered := map[api.Errno]int{}
	for seed := range 250 {
		r := rand.New(rand.NewSource(int64(seed)))
		c := turns.Config(r.Intn)
		l := turns.Programs(r.Intn, c, 40)
		s := make1(t, c, uint8(1+seed%2), l)
		s.Run(turns.Picks(r.Intn, c, r.Intn(4000)))
		byMarks(t, c, l, s.Events())
		finish(t, c, s)
		history := s.Events()
		m := byMarks(t, c, l, history)
		rows(t, s.Shop(), m)
		calls := 0
		for task := range c.Tasks {
			if _, is := s.Under(task); is || s.Left(task) != 0 || !s.Rests(task) {
				t.Fatal("a call is left")
			}
			if task < len(l) {
				calls += len(l[task])
			}
		}
		if len(history) != 3*calls {
			t.Fatalf("%d events of %d calls", len(history), calls)
		}
		for _, e := range history {
			if e.What == api.Return {
				answered[e.Answer.Err]++
			}
		}
	}
	for _, e := range []api.Errno{api.OK, api.ErrArg, api.NoTxn, api.Done, api.TooLarge, api.Conflict, api.Full, api.Exhausted} {
		if answered[e] < 10 {
			t.Errorf("%v was answered %d times", e, answered[e])
		}
	}
}

// P27.1, P27.2: what a pick does, and what is told of it, pick by pick.
func TestPicks(t *testing.T) {
	for seed := range 40 {
		r := rand.New(rand.NewSource(int64(seed)))
		c := turns.Config(r.Intn)
		l := turns.Programs(r.Intn, c, 12)
		s := make1(t, c, 1, l)
		invoked, steps := make([]int, c.Tasks), make([]int, c.Tasks) // steps: -1: none is under way
		done := make([]bool, c.Tasks)
		for task := range steps {
			steps[task] = -1
		}
		for range 1200 {
			task := r.Intn(c.Tasks+2) - 1
			before := s.Events()
			did := s.Pick(task)
			more := s.Events()[len(before):]
			if task < 0 || task >= c.Tasks {
				if did || len(more) > 0 {
					t.Fatal("a task that there is not")
				}
				continue
			}
			calls := 0
			if task < len(l) {
				calls = len(l[task])
			}
			returned := len(more) == 1 && more[0].What == api.Return
			switch {
			case steps[task] < 0 && invoked[task] == calls:
				if did || len(more) > 0 {
					t.Fatal("no call is left")
				}
			case steps[task] < 0:
				if !did || len(more) != 1 || more[0].What != api.Invoke || more[0].Call != invoked[task] {
					t.Fatal("not invoked:", more)
				}
				invoked[task]++
				steps[task], done[task] = 0, false
			case returned:
				if _, marked, is := s.Shop().Log.Under(task); is || marked || !did || !done[task] {
					t.Fatal("returned:", more)
				}
				steps[task] = -1
			default:
				if !did || len(more) > 1 || len(more) == 1 && more[0].What != api.Mark || done[task] {
					t.Fatal("a step:", more)
				}
				steps[task]++
				done[task] = s.Rests(task)
			}
			call, is := s.Under(task)
			if is != (steps[task] >= 0) || is && call != invoked[task]-1 || !is && call != 0 || s.Left(task) != calls-invoked[task] {
				t.Fatalf("Under %d, %v; Left %d", call, is, s.Left(task))
			}
			if steps[task] <= 0 && !s.Rests(task) {
				t.Fatal("it does not rest, and did no step")
			}
			if held := s.Shop().Latches.Held(task); s.Rests(task) && len(held) > 0 {
				t.Fatal("it rests, and holds", held)
			}
			if _, marked, is := s.Shop().Log.Under(task); is && done[task] != (marked && s.Rests(task)) {
				t.Fatal("done, and rests:", done[task], marked, s.Rests(task))
			}
		}
	}
}

// P27.4: if all others rest, a task's call is done by picks of that task alone.
func TestAlone(t *testing.T) {
	tried := 0
	for seed := range 60 {
		r := rand.New(rand.NewSource(int64(seed)))
		c := turns.Config(r.Intn)
		l := turns.Programs(r.Intn, c, 20)
		picks := turns.Picks(r.Intn, c, 1500)
		s := make1(t, c, uint8(1+seed%2), l)
		for n, task := range picks {
			s.Pick(task)
			others := true
			for k := range c.Tasks {
				others = others && (k == task || s.Rests(k))
			}
			if _, is := s.Under(task); !is || !others || r.Intn(12) > 0 {
				continue
			}
			tried++
			again := make1(t, c, uint8(1+seed%2), l)
			again.Run(picks[:n+1])
			for k := 0; ; k++ {
				if _, is := again.Under(task); !is {
					break
				}
				if again.Pick(task); k > 3000 {
					t.Fatal("it does not end")
				}
			}
		}
	}
	if tried < 100 {
		t.Error("too few:", tried)
	}
}

// told is all of a shop that is to be seen, as a text.
func told(s *row.Shop) string {
	out := fmt.Sprint(s.C, s.Table.Clock(), s.Table.Floor(), s.Table.Active(), s.Table.Keys(), s.Table.Dead(), s.Table.Home(), s.Tree.Root(), s.Latches.All(), s.Anchors.Used(), s.A.Used(), s.B.Used(), s.B.Segments())
	for task := range 7 {
		out += fmt.Sprint(s.Latches.Held(task))
	}
	for _, id := range s.Tree.Nodes() {
		n, _ := s.Tree.Node(id)
		out += fmt.Sprint("|", id, n)
		for _, h := range n.Rows {
			e, r, is := s.Anchor(h)
			out += fmt.Sprint(" ", e, r, is, s.A.List(r), s.B.List(r))
		}
	}
	for w := 1; s.Table.State(w) > 0; w++ {
		out += fmt.Sprint(" ", s.Table.State(w))
	}
	return out
}

// P27.6: just by its picks; and what was handed in, or told, is not kept.
func TestJustByItsPicks(t *testing.T) {
	for seed := range 40 {
		r := rand.New(rand.NewSource(int64(seed)))
		c := turns.Config(r.Intn)
		l := turns.Programs(r.Intn, c, 20)
		picks := turns.Picks(r.Intn, c, 1200)
		handed := make([][]api.Call, len(l))
		for k := range l {
			handed[k] = slices.Clone(l[k])
		}
		a, b := make1(t, c, 2, l), make1(t, c, 2, handed)
		for _, x := range handed {
			for k := range x {
				x[k] = api.Call{Kind: api.Vacuum}
			}
		}
		half := len(picks) / 2
		n := a.Run(picks[:half])
		m := 0
		for _, task := range picks[:half] {
			if b.Pick(task) {
				m++
			}
		}
		if n != m || !event.Same(a.Events(), b.Events()) || told(a.Shop()) != told(b.Shop()) {
			t.Fatal("two stores of which the same is picked")
		}
		early := a.Events()
		shop := b.Shop()
		shop.Table.Vacuum()
		shop.Tree.Insert("zz", 1)
		shop.Log.Invoke(0)
		shop.Log.Mark(0)
		for k := range c.Tasks {
			for _, name := range shop.Latches.Held(k) {
				shop.Latches.Drop(name, k)
			}
		}
		if l := b.Events(); len(l) > 0 {
			l[0].Task = 77
		}
		a.Run(picks[half:])
		b.Run(picks[half:])
		if !event.Same(a.Events(), b.Events()) || told(a.Shop()) != told(b.Shop()) || !event.Same(a.Events()[:len(early)], early) {
			t.Fatal("what was picked ahead is otherwise now")
		}
	}
}

// inRow does programs call by call, in a row of tasks; the answers, but those of Migrates.
func inRow(t *testing.T, c api.Config, home uint8, l [][]api.Call, row []int) []api.Answer {
	t.Helper()
	s := make1(t, c, home, l)
	var answers []api.Answer
	for _, task := range row {
		call := len(l[task]) - s.Left(task)
		for n := 0; ; n++ {
			s.Pick(task)
			if _, is := s.Under(task); !is {
				break
			}
			if n > 3000 {
				t.Fatal("it does not end")
			}
		}
		events := s.Events()
		if l[task][call].Kind != api.Migrate {
			answers = append(answers, events[len(events)-1].Answer)
		}
	}
	return answers
}

// P27.8: wherever keys are.
func TestWhereverKeysAre(t *testing.T) {
	for seed := range 60 {
		r := rand.New(rand.NewSource(int64(seed)))
		c := turns.Config(r.Intn)
		l := turns.Programs(r.Intn, c, 20)
		var rest []int // the tasks, as often as they have calls
		for task, program := range l {
			l[task] = slices.DeleteFunc(program, func(x api.Call) bool { return x.Kind == api.Migrate })
			rest = append(rest, slices.Repeat([]int{task}, len(l[task]))...)
		}
		r.Shuffle(len(rest), func(i, k int) { rest[i], rest[k] = rest[k], rest[i] })
		with, more, done := make([][]api.Call, len(l)), []int(nil), make([]int, len(l))
		for _, task := range rest {
			for range r.Intn(3) {
				if k := r.Intn(len(l)); len(with[k]) < api.MaxCalls-len(l[k])+done[k] {
					with[k], more = append(with[k], api.Call{Kind: api.Migrate, Engine: uint8(1 + r.Intn(2))}), append(more, k)
				}
			}
			with[task], more = append(with[task], l[task][done[task]]), append(more, task)
			done[task]++
		}
		want := inRow(t, c, 1, l, rest)
		for k, got := range [][]api.Answer{inRow(t, c, 2, l, rest), inRow(t, c, 1, with, more), inRow(t, c, 2, with, more)} {
			if !slices.EqualFunc(got, want, same) {
				t.Fatalf("%d: %v, not %v", k, got, want)
			}
		}
	}
}

// P27.1: what a store is made of; errors in their row.
func TestNew(t *testing.T) {
	c := api.Config{Tasks: 2, Active: 1, Keys: 1, Depth: 2, TS: 1, KeyLen: 1, Fan: 3}
	long := make([]api.Call, api.MaxCalls+1)
	for k, x := range []struct {
		c    api.Config
		home uint8
		l    [][]api.Call
		want api.Errno
	}{
		{api.Config{}, 1, nil, api.ErrArg},
		{c, 0, nil, api.ErrArg},
		{c, 3, nil, api.ErrArg},
		{c, 1, make([][]api.Call, 3), api.ErrArg},
		{c, 1, [][]api.Call{long, nil, nil}, api.ErrArg},
		{c, 0, [][]api.Call{long}, api.ErrArg},
		{c, 1, [][]api.Call{long}, api.ErrTooLarge},
		{c, 1, [][]api.Call{nil, long}, api.ErrTooLarge},
	} {
		if s, e := store.New(x.c, x.home, x.l); s != nil || e != x.want {
			t.Errorf("%d: %v, %v, not %v", k, s, e, x.want)
		}
	}
	for n := range 3 {
		s := make1(t, c, 2, make([][]api.Call, n))
		if len(s.Events()) != 0 || s.Run([]int{0, 1, 2, -1}) != 0 || s.Shop().Table.Home() != 2 || s.Shop().C != c {
			t.Error("of no calls")
		}
	}
	s := make1(t, c, 1, [][]api.Call{long[:api.MaxCalls]})
	if s.Left(0) != api.MaxCalls || s.Left(1) != 0 {
		t.Error(s.Left(0), s.Left(1))
	}
}

// P27.1: a Kind that is none is refused by a single step.
func TestNoKind(t *testing.T) {
	c := api.Config{Tasks: 1, Active: 1, Keys: 1, Depth: 2, TS: 1, KeyLen: 1, Fan: 3}
	for _, kind := range []uint8{0, 10, 11, 128, 255} {
		s := make1(t, c, 1, [][]api.Call{{{Kind: kind, Tx: 1, Key: "a"}}})
		if n := s.Run([]int{0, 0, 0, 0}); n != 3 {
			t.Errorf("the Kind %d: %d picks", kind, n)
		}
		if l := s.Events(); len(l) != 3 || l[1].What != api.Mark || !same(l[2].Answer, api.Answer{Err: api.ErrArg}) {
			t.Errorf("the Kind %d: %v", kind, l)
		}
	}
}

// P27.2: a try that fails is something that is done.
func TestTries(t *testing.T) {
	c := api.Config{Tasks: 2, Active: 2, Keys: 2, Depth: 2, TS: 5, KeyLen: 1, Fan: 3}
	begin, put := api.Call{Kind: api.Begin}, api.Call{Kind: api.Put, Tx: 1, Key: "a"}
	s := make1(t, c, 1, [][]api.Call{{begin, put}, {begin, put}})
	s.Run([]int{0, 0, 0, 0, 1, 1, 1, 1, 0, 0, 0, 1, 1}) // the first one has the root word
	if s.Rests(0) || s.Rests(1) {
		t.Error("they rest")
	}
	was := told(s.Shop())
	if !s.Pick(1) || !s.Pick(1) || told(s.Shop()) != was {
		t.Error("a try that fails")
	}
}

// R1: of nil.
func TestNil(t *testing.T) {
	var s *store.Store
	if call, is := s.Under(0); call != 0 || is || s.Pick(0) || s.Run([]int{0, 1}) != 0 || len(s.Events()) != 0 || !s.Rests(0) || s.Left(0) != 0 || s.Shop() != nil {
		t.Error("of nil")
	}
	x := make1(t, api.Config{Tasks: 1, Active: 1, Keys: 1, Depth: 2, TS: 1, KeyLen: 1, Fan: 3}, 1, [][]api.Call{{{Kind: api.Begin}}})
	for _, task := range []int{math.MinInt, -1, 1, math.MaxInt} {
		if call, is := x.Under(task); call != 0 || is || x.Pick(task) || !x.Rests(task) || x.Left(task) != 0 {
			t.Error("a task that there is not:", task)
		}
	}
}

func TestExamples(t *testing.T) {
	c := api.Config{Tasks: 2, Active: 2, Keys: 2, Depth: 2, TS: 5, KeyLen: 1, ValLen: 1, Fan: 3}
	begin := api.Call{Kind: api.Begin}
	s := make1(t, c, 1, [][]api.Call{
		{begin, {Kind: api.Put, Tx: 1, Key: "a", Value: "1"}, {Kind: api.Commit, Tx: 1}},
		{begin, {Kind: api.Get, Tx: 1, Key: "a"}},
	})
	if n := s.Run([]int{0, 0, 0, 0}); n != 4 || len(s.Events()) != 3 || s.Events()[2].What != api.Return {
		t.Error(n, s.Events())
	}
	s.Run([]int{1, 1, 1, 1})
	zeros := make([]int, 11)
	if n := s.Run(zeros[:10]); n != 10 {
		t.Error(n)
	}
	if l := s.Events(); len(l) != 9 || l[8].What != api.Return || l[8].Call != 1 {
		t.Error(l)
	}
	if call, is := s.Under(0); is {
		t.Error(call)
	}
	s.Run(zeros[:1])
	if call, is := s.Under(0); call != 2 || !is {
		t.Error(call, is)
	}
	if n := s.Run([]int{2}); n != 0 {
		t.Error(n)
	}
}
