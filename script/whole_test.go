package script_test

import (
	"math/rand"
	"slices"
	"testing"

	"ferryman/api"
	"ferryman/axioms"
	"ferryman/compile"
	"ferryman/event"
	"ferryman/model"
	"ferryman/replay"
	"ferryman/room"
	"ferryman/row"
	"ferryman/script"
	"ferryman/store"
	"ferryman/turns"
)

// great is a script with as much of all as there may be.
func great(r *rand.Rand) script.Script {
	x := script.Script{C: api.Config{Tasks: api.MaxTasks, Active: api.MaxActive, Keys: api.MaxKeys, Depth: api.MaxDepth, TS: api.MaxTS, KeyLen: api.MaxKey, ValLen: api.MaxVal, Fan: 3}, Home: uint8(1 + r.Intn(2))}
	for range x.C.Tasks {
		l := turns.Program(r.Intn, api.MaxCalls)
		for k := range l {
			l[k].Key += string(rune('a' + r.Intn(10)))
		}
		x.Programs = append(x.Programs, l)
	}
	x.Picks = turns.Picks(r.Intn, x.C, 10000)
	return x
}

// scripts are some, of which the last one is great.
func scripts(n, calls, picks int, f func(r *rand.Rand, x script.Script)) {
	for seed := range n {
		r := rand.New(rand.NewSource(int64(seed)))
		f(r, some(r, calls, picks))
	}
	r := rand.New(rand.NewSource(1000))
	f(r, great(r))
}

func same(a, b api.Answer) bool {
	return a.Err == b.Err && a.Found == b.Found && a.Value == b.Value && slices.Equal(a.Pairs, b.Pairs)
}

// byMarks holds a history against the model, in the row of the marks: its answers, and where each mark is.
func byMarks(t *testing.T, x script.Script, l []api.Event) *model.Model {
	t.Helper()
	m, _ := model.New(x.C)
	last := map[event.Place]uint8{}
	told := map[event.Place]api.Answer{}
	for _, e := range l {
		at := event.Place{Task: e.Task, Call: e.Call}
		if last[at]++; last[at] != e.What {
			t.Fatalf("%+v: not an Invoke, a Mark, a Return", e)
		}
		switch e.What {
		case api.Mark:
			told[at] = m.Do(e.Task, x.Programs[e.Task][e.Call])
		case api.Return:
			if !same(e.Answer, told[at]) {
				t.Fatalf("%+v: %+v, the model %+v", x.Programs[e.Task][e.Call], e.Answer, told[at])
			}
		}
	}
	return m
}

// list tells what stands in a key's row.
func list(s *row.Shop, key string) []api.Version {
	h, _ := s.Tree.Find(key)
	_, top, _ := s.Anchor(h)
	return append(s.A.List(top), s.B.List(top)...)
}

// P1: one model.
func TestOneModel(t *testing.T) {
	scripts(300, 40, 4000, func(r *rand.Rand, x script.Script) {
		s, e := script.Play(x)
		if e != api.OK {
			t.Fatal(e)
		}
		byMarks(t, x, s.Events())
		script.Finish(s, x.C.Tasks, 1<<30)
		m, shop := byMarks(t, x, s.Events()), s.Shop()
		if !slices.Equal(m.Keys(), shop.Tree.Keys()) {
			t.Fatalf("%q, the model %q", shop.Tree.Keys(), m.Keys())
		}
		for _, key := range m.Keys() {
			want := m.Versions(key)
			if v, is := m.Intent(key); is {
				want = slices.Insert(want, 0, v)
			}
			if got := list(shop, key); !slices.EqualFunc(got, want, func(a, b api.Version) bool { return a.Writer == b.Writer && a.Tomb == b.Tomb && a.Value == b.Value }) {
				t.Fatalf("%q: %v, the model %v", key, got, want)
			}
		}
	})
}

// marks tells the calls in the row of their Marks.
func marks(l []api.Event) []event.Place {
	var out []event.Place
	for _, e := range l {
		if e.What == api.Mark {
			out = append(out, event.Place{Task: e.Task, Call: e.Call})
		}
	}
	return out
}

// reaches tells whether by the compiler's schedule a store has a history.
func reaches(t *testing.T, x script.Script, home uint8, l []api.Event) {
	t.Helper()
	x.Home = home
	var e api.Errno
	if x.Picks, e = compile.Of(x.C, home, x.Programs, l); e != api.OK {
		t.Fatal(e)
	}
	s, _ := script.Play(x)
	if got := s.Events(); !event.Same(event.Bare(got), event.Bare(l)) || !slices.Equal(marks(got), marks(l)) {
		t.Fatalf("%v, not %v", got, l)
	}
}

// P2: by chains alone, by undo alone, and by either with Migrates, the same histories come to be, each of them of the model.
func TestOneHistory(t *testing.T) {
	scripts(60, 15, 1500, func(r *rand.Rand, x script.Script) {
		for k, program := range x.Programs { // without Migrates
			x.Programs[k] = slices.DeleteFunc(program, func(c api.Call) bool { return c.Kind == api.Migrate })
		}
		s, _ := script.Play(x)
		free, _ := compile.Free(x.C, x.Programs, x.Picks[:min(len(x.Picks), 200)])
		for _, l := range [][]api.Event{s.Events(), free} {
			if at, e := replay.Check(x.C, x.Programs, l); e != api.OK {
				t.Fatal("not of the model:", at, e)
			}
			reaches(t, x, api.Chains, l)
			reaches(t, x, api.Undo, l)
			var puts []compile.Put
			for range 8 {
				puts = append(puts, compile.Put{Task: r.Intn(x.C.Tasks), Call: r.Intn(4), Engine: uint8(1 + r.Intn(2)), At: r.Intn(len(l) + 1)})
			}
			with := x
			var run []api.Event
			var places []event.Place
			with.Programs, run, places, _ = compile.Ferried(x.C, x.Programs, l, puts)
			if !event.Same(event.Without(run, places), l) {
				t.Fatal("their events left out it is another one")
			}
			reaches(t, with, uint8(1+r.Intn(2)), run)
		}
	})
}

// P2: with Migrates under way among others: their events left out, one of the model.
func TestFerriedHistories(t *testing.T) {
	ferries := 0
	scripts(150, 20, 2500, func(r *rand.Rand, x script.Script) {
		for k, program := range x.Programs {
			for range r.Intn(4) {
				if len(program) < api.MaxCalls {
					program = slices.Insert(program, r.Intn(len(program)+1), api.Call{Kind: api.Migrate, Engine: uint8(1 + r.Intn(2))})
				}
			}
			x.Programs[k] = program
		}
		s, _ := script.Play(x)
		script.Finish(s, x.C.Tasks, 1<<30)
		var gone []event.Place
		without := x
		without.Programs = nil
		for task, program := range x.Programs {
			for k, c := range program {
				if c.Kind == api.Migrate {
					gone = append(gone, event.Place{Task: task, Call: k})
				}
			}
			without.Programs = append(without.Programs, slices.DeleteFunc(slices.Clone(program), func(c api.Call) bool { return c.Kind == api.Migrate }))
		}
		ferries += len(gone)
		l := event.Without(s.Events(), gone)
		if at, e := replay.Check(x.C, without.Programs, l); e != api.OK {
			t.Fatal("their events left out it is not of the model:", at, e)
		}
		reaches(t, without, uint8(1+r.Intn(2)), l)
	})
	if ferries < 200 {
		t.Error("too few:", ferries)
	}
}

// P3: what they saw.
func TestWhatTheySaw(t *testing.T) {
	scripts(200, 40, 4000, func(r *rand.Rand, x script.Script) {
		s, _ := script.Play(x)
		l, e := axioms.Txns(x.C, x.Programs, s.Events())
		if e != api.OK || !axioms.Holds(l) {
			t.Fatalf("%+v, %v", l, e)
		}
	})
}

// P4: room, behind each pick.
func TestRoom(t *testing.T) {
	answered := 0
	scripts(60, 25, 1200, func(r *rand.Rand, x script.Script) {
		s, _ := store.New(x.C, x.Home, x.Programs)
		mostSlots, mostAnchors := room.Bound(x.C)
		slots, anchors, seen := 0, 0, 0
		for n, task := range x.Picks {
			if n > 3000 {
				break
			}
			s.Pick(task)
			if l := s.Events(); len(l) != seen {
				seen = len(l)
				if l[seen-1].Answer.Err == api.Full {
					answered++
				}
				var e api.Errno
				if slots, anchors, e = room.Now(x.C, x.Programs, l); e != api.OK || slots > mostSlots || anchors > mostAnchors {
					t.Fatal(slots, anchors, e)
				}
			}
			shop := s.Shop()
			if a, b := shop.A.Used()+shop.B.Used(), shop.Anchors.Used(); a > slots || b > anchors {
				t.Fatalf("behind %d picks %d slots, %d anchors, not %d, %d", n+1, a, b, slots, anchors)
			}
		}
	})
	if answered < 20 {
		t.Error("too few that are Full:", answered)
	}
}

// quiet picks a task till its call has returned; in how many picks.
func quiet(t *testing.T, s *store.Store, task int) int {
	t.Helper()
	for n := 1; n < 1<<20; n++ {
		s.Pick(task)
		if _, is := s.Under(task); !is {
			return n
		}
	}
	t.Fatal("it does not end")
	return 0
}

// P5: swept: behind a Vacuum, when nothing else is under way, and no transaction active.
func TestSwept(t *testing.T) {
	vacuums := 0
	scripts(200, 30, 2500, func(r *rand.Rand, x script.Script) {
		for k, program := range x.Programs { // all transactions come to an end
			program = program[:min(len(program), api.MaxCalls-20)]
			for n := range 19 {
				program = append(program, api.Call{Kind: api.Commit, Tx: n + 1})
			}
			x.Programs[k] = append(program, api.Call{Kind: api.Vacuum})
		}
		s, _ := script.Play(x)
		for task := range len(x.Programs) {
			for s.Left(task) > 0 {
				script.Calm(s, x.C.Tasks, 1<<30)
				call := len(x.Programs[task]) - s.Left(task)
				s.Pick(task)
				active := s.Shop().Table.Active()
				quiet(t, s, task)
				if x.Programs[task][call].Kind != api.Vacuum || active > 0 {
					continue
				}
				vacuums++
				m, shop := byMarks(t, x, s.Events()), s.Shop()
				if !slices.Equal(shop.Tree.Keys(), m.Keys()) || shop.A.Used()+shop.B.Used() != len(m.Keys()) || shop.Anchors.Used() != len(m.Keys()) {
					t.Fatalf("%q, the model %q; %d slots", shop.Tree.Keys(), m.Keys(), shop.A.Used()+shop.B.Used())
				}
				for _, key := range m.Keys() {
					if l := list(shop, key); len(l) != 1 || l[0].Tomb {
						t.Fatalf("%q has %v", key, l)
					}
				}
			}
		}
	})
	if vacuums < 40 {
		t.Error("too few:", vacuums)
	}
}

// P6: it goes on.
func TestItGoesOn(t *testing.T) {
	scripts(250, 40, 4000, func(r *rand.Rand, x script.Script) {
		s, _ := script.Play(x)
		most := room.Rounds(x.C)
		if n := script.Calm(s, x.C.Tasks, most); n > most {
			t.Fatal("rounds:", n)
		}
		for task := range x.C.Tasks {
			if call, is := s.Under(task); is {
				t.Fatalf("the call %d of %d is under way behind %d rounds", call, task, most)
			}
		}
		if n := s.Shop().Latches.All(); n != 0 {
			t.Fatal("latches that are held:", n)
		}
	})
}

// P7: ferried: behind a Migrate's return.
func TestFerried(t *testing.T) {
	asked := 0
	scripts(200, 30, 3000, func(r *rand.Rand, x script.Script) {
		s, _ := store.New(x.C, x.Home, x.Programs)
		var kind func(task int) uint8 // of the call that is under way
		kind = func(task int) uint8 {
			call, is := s.Under(task)
			if !is {
				return 0
			}
			return x.Programs[task][call].Kind
		}
		for _, task := range x.Picks {
			was := kind(task)
			s.Pick(task)
			if was != api.Migrate || kind(task) != 0 {
				continue
			}
			l := s.Events()
			e := l[len(l)-1]
			if e.Answer.Err != api.OK {
				continue
			}
			alone := true
			for k := range x.C.Tasks {
				alone = alone && kind(k) != api.Vacuum
			}
			for k := len(l) - 1; l[k].What != api.Mark || l[k].Task != task; k-- {
				alone = alone && !(l[k].What == api.Mark && x.Programs[l[k].Task][l[k].Call].Kind == api.Migrate)
			}
			if !alone {
				continue
			}
			asked++
			to, shop := x.Programs[task][e.Call].Engine, s.Shop()
			for _, id := range shop.Tree.Nodes() {
				n, _ := shop.Tree.Node(id)
				for _, h := range n.Rows {
					if engine, _, is := shop.Anchor(h); engine != to || !is {
						t.Fatalf("an anchor of the engine %d, not %d", engine, to)
					}
				}
			}
			if to == api.Chains && shop.B.Used() > 0 || to == api.Undo && shop.A.Used() > 0 {
				t.Fatal("the other one's arena:", shop.A.Used(), shop.B.Used())
			}
		}
	})
	if asked < 50 {
		t.Error("too few:", asked)
	}
}

// P8: alone: while no other one holds a latch.
func TestAlone(t *testing.T) {
	tried := 0
	scripts(80, 25, 1500, func(r *rand.Rand, x script.Script) {
		s, _ := store.New(x.C, x.Home, x.Programs)
		for n, task := range x.Picks {
			s.Pick(task)
			call, is := s.Under(task)
			if !is || r.Intn(10) > 0 || len(x.Picks) > 5000 && r.Intn(40) > 0 {
				continue
			}
			shop, others := s.Shop(), 0
			for k := range x.C.Tasks {
				if k != task {
					others += len(shop.Latches.Held(k))
				}
			}
			if others > 0 {
				continue
			}
			tried++
			again, _ := script.Play(script.Script{C: x.C, Home: x.Home, Programs: x.Programs, Picks: x.Picks[:n+1]})
			if got, most := quiet(t, again, task), room.Steps(x.C, x.Programs[task][call].Kind); got > most {
				t.Fatalf("%+v: %d steps, not %d", x.Programs[task][call], got, most)
			}
		}
	})
	if tried < 500 {
		t.Error("too few:", tried)
	}
}

// The ten examples of the whole.
func TestTenExamples(t *testing.T) {
	begin := api.Call{Kind: api.Begin}
	get := func(n int) api.Call { return api.Call{Kind: api.Get, Tx: n, Key: "a"} }
	put := func(n int, key string) api.Call { return api.Call{Kind: api.Put, Tx: n, Key: key, Value: "1"} }
	commit := func(n int) api.Call { return api.Call{Kind: api.Commit, Tx: n} }
	abort := func(n int) api.Call { return api.Call{Kind: api.Abort, Tx: n} }
	c := api.Config{Tasks: 2, Active: 4, Keys: 9, Depth: 3, TS: 20, KeyLen: 1, ValLen: 1, Fan: 3}
	type turn struct {
		task int
		call api.Call
		want api.Answer
	}
	found := api.Answer{Found: true, Value: "1"}
	for name, turns := range map[string][]turn{
		"1: one that began ahead, and one behind": {
			{0, begin, api.Answer{}}, {1, begin, api.Answer{}}, {0, put(1, "a"), api.Answer{}}, {0, commit(1), api.Answer{}},
			{1, get(1), api.Answer{}}, {1, begin, api.Answer{}}, {1, get(2), found},
		},
		"2: two put one key": {
			{0, begin, api.Answer{}}, {1, begin, api.Answer{}}, {1, begin, api.Answer{}}, {0, put(1, "a"), api.Answer{}},
			{1, put(1, "a"), api.Answer{Err: api.Conflict}}, {0, commit(1), api.Answer{}}, {1, put(1, "a"), api.Answer{Err: api.Conflict}},
			{0, begin, api.Answer{}}, {0, put(2, "a"), api.Answer{}}, {1, begin, api.Answer{}}, {1, put(3, "a"), api.Answer{Err: api.Conflict}},
			{0, abort(2), api.Answer{}}, {1, put(3, "a"), api.Answer{}},
		},
		"4, 5: a tomb counts, till a Vacuum's horizon has passed it": {
			{0, begin, api.Answer{}}, {0, put(1, "a"), api.Answer{}}, {0, commit(1), api.Answer{}}, {1, begin, api.Answer{}},
			{0, begin, api.Answer{}}, {0, api.Call{Kind: api.Delete, Tx: 2, Key: "a"}, api.Answer{Found: true}}, {0, commit(2), api.Answer{}},
			{0, api.Call{Kind: api.Vacuum}, api.Answer{}}, {1, get(1), found}, {1, abort(1), api.Answer{}},
			{1, begin, api.Answer{}}, {1, get(2), api.Answer{}}, {1, abort(2), api.Answer{}}, {0, api.Call{Kind: api.Vacuum}, api.Answer{}},
		},
	} {
		for _, home := range []uint8{1, 2} {
			var l [][]api.Call
			for range c.Tasks {
				l = append(l, nil)
			}
			for _, x := range turns {
				l[x.task] = append(l[x.task], x.call)
			}
			s, _ := script.Play(script.Script{C: c, Home: home, Programs: l})
			for k, x := range turns {
				s.Pick(x.task)
				quiet(t, s, x.task)
				events := s.Events()
				if a := events[len(events)-1].Answer; !same(a, x.want) {
					t.Errorf("%s, home %d, the call %d: %+v, not %+v", name, home, k, a, x.want)
				}
			}
			if keys := s.Shop().Table.Keys(); name[0] == '4' && keys != 0 {
				t.Errorf("%s, home %d: %d keys have something", name, home, keys)
			}
		}
	}
}
