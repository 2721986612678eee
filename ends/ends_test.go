package ends_test

import (
	"fmt"
	"math/rand"
	"slices"
	"strings"
	"testing"

	"ferryman/api"
	"ferryman/call"
	"ferryman/crab"
	"ferryman/ends"
	"ferryman/fork"
	"ferryman/latch"
	"ferryman/put"
	"ferryman/row"
	"ferryman/status"
	"ferryman/turns"
	"ferryman/view"
)

func config() api.Config {
	return api.Config{Tasks: 4, Active: 6, Keys: 20, Depth: 6, TS: 50, KeyLen: 4, ValLen: 4, Fan: 3}
}

func make1(t *testing.T, home uint8) *row.Shop {
	t.Helper()
	s, e := row.New(config(), home)
	if e != api.OK {
		t.Fatal(e)
	}
	return s
}

func word() latch.Name                 { return latch.Name{Kind: crab.Word} }
func node(id int) latch.Name           { return latch.Name{Kind: crab.Node, ID: uint64(id)} }
func anchored(h api.Handle) latch.Name { return latch.Name{Kind: crab.Anchor, ID: uint64(h)} }

// stepper is what goes step by step.
type stepper interface {
	Step(s *row.Shop, task int) bool
}

// run has something go to its end, alone; in how many steps.
func run(t *testing.T, s *row.Shop, task int, x stepper) int {
	t.Helper()
	for n := 1; n < 400; n++ {
		if x.Step(s, task) {
			was := told(s)
			if !x.Step(s, task) || told(s) != was {
				t.Fatal("a step more does something")
			}
			return n
		}
	}
	t.Fatal("it does not end")
	return 0
}

// told is all of a shop that is to be seen, as a text.
func told(s *row.Shop) string {
	out := fmt.Sprint(s.Table.Clock(), s.Table.Floor(), s.Table.Active(), s.Table.Keys(), s.Table.Dead(), s.Table.Home(), s.Tree.Root(), s.Latches.All(), s.Anchors.Used(), s.A.Used(), s.B.Used(), s.Log.Events())
	for _, id := range s.Tree.Nodes() {
		n, _ := s.Tree.Node(id)
		out += fmt.Sprint("|", id, n)
		for _, h := range n.Rows {
			e, r, is := s.Anchor(h)
			out += fmt.Sprint(" ", e, r, is, s.A.List(r), s.B.List(r))
		}
	}
	for w := 1; s.Table.State(w) > 0; w++ {
		out += fmt.Sprint(" ", s.Table.State(w))
	}
	return out
}

// writer is the machine by which a writer puts a value, or a tomb, on a key.
func writer(w int, key string, tomb bool) *put.Put {
	txs := &call.Txs{}
	txs.Add(w)
	x := api.Call{Kind: api.Put, Tx: 1, Key: key, Value: "v"}
	if tomb {
		x.Kind = api.Delete
	}
	return put.New(x, txs)
}

// write has a writer write a key, alone.
func write(t *testing.T, s *row.Shop, w int, key string, tomb bool) api.Errno {
	t.Helper()
	p := writer(w, key, tomb)
	run(t, s, 0, p)
	return p.Answer().Err
}

// do has a task do a call by layer 21, alone.
func do(t *testing.T, s *row.Shop, task int, x api.Call, txs *call.Txs) (api.Answer, int) {
	t.Helper()
	s.Log.Invoke(task)
	m := ends.New(x, txs)
	n := run(t, s, task, m)
	a := m.Answer()
	if _, marked, is := s.Log.Under(task); !marked || !is {
		t.Fatal("it made no mark")
	}
	s.Log.Return(task, a)
	if len(s.Latches.Held(task)) != 0 {
		t.Fatal("behind its end it holds", s.Latches.Held(task))
	}
	return a, n
}

func same(a, b api.Answer) bool {
	return a.Err == b.Err && a.Found == b.Found && a.Value == b.Value && len(a.Pairs) == len(b.Pairs)
}

// P21.1: the head's step, and in what row a call is refused.
func TestHead(t *testing.T) {
	s := make1(t, 1)
	txs := &call.Txs{}
	for n := range 3 {
		do(t, s, 0, api.Call{Kind: api.Begin}, txs)
		if n == 1 { // so that snapshots are unlike ones
			write(t, s, 2, "k", false)
			do(t, s, 0, api.Call{Kind: api.Commit, Tx: 2}, txs)
		}
	}
	long := strings.Repeat("x", 5)
	for k, x := range []struct {
		c    api.Call
		want api.Errno
	}{
		{api.Call{Kind: 0, Tx: 9, Key: long}, api.ErrArg},
		{api.Call{Kind: 10}, api.ErrArg},
		{api.Call{Kind: api.Migrate, Engine: 3}, api.ErrArg},
		{api.Call{Kind: api.Get, Tx: 9, Key: long}, api.NoTxn},
		{api.Call{Kind: api.Get, Tx: 0, Key: "a"}, api.NoTxn},
		{api.Call{Kind: api.Get, Tx: 2, Key: long}, api.Done},
		{api.Call{Kind: api.Get, Tx: 1, Key: long}, api.TooLarge},
		{api.Call{Kind: api.Put, Tx: 1, Key: "a", Value: long}, api.TooLarge},
		{api.Call{Kind: api.Scan, Tx: 1, Limit: 129}, api.TooLarge},
		{api.Call{Kind: api.Get, Tx: 1, Key: "a"}, api.OK},
		{api.Call{Kind: api.Put, Tx: 3, Key: "a"}, api.OK},
		{api.Call{Kind: api.Scan, Tx: 3}, api.OK},
		{api.Call{Kind: api.Commit, Tx: 1, Key: long}, api.OK},
		{api.Call{Kind: api.Begin, Tx: -1}, api.OK},
		{api.Call{Kind: api.Vacuum}, api.OK},
		{api.Call{Kind: api.Migrate, Engine: 2}, api.OK},
	} {
		s.Log.Invoke(1)
		h := &ends.Head{Call: x.c, Txs: txs}
		was := fmt.Sprint(s.Table.Active(), s.Table.Clock(), s.Latches.All(), s.Tree.Nodes())
		if got := h.Look(s, 1); got != (x.want == api.OK) || !h.Looked || !same(h.Told, api.Answer{Err: x.want}) {
			t.Errorf("%d: %v, %+v", k, got, h)
		}
		w, snapshot, v := 0, 0, view.View{}
		if x.want == api.OK && x.c.Kind >= 2 && x.c.Kind <= 7 {
			w = x.c.Tx
			snapshot, _ = s.Table.Snapshot(w)
			v, _ = s.Table.View(w)
		}
		if h.W != w || h.Snapshot != snapshot || !view.Same(h.View, v) {
			t.Errorf("%d: %+v, not %d, %d, %v", k, h, w, snapshot, v)
		}
		if _, marked, is := s.Log.Under(1); !is || marked != (x.want != api.OK) {
			t.Errorf("%d: marked %v", k, marked)
		}
		if was != fmt.Sprint(s.Table.Active(), s.Table.Clock(), s.Latches.All(), s.Tree.Nodes()) {
			t.Errorf("%d: the head did something", k)
		}
		s.Log.Mark(1)
		s.Log.Return(1, api.Answer{})
	}
}

// P21.2: Begin, Commit, Abort without writes; their steps, and marks.
func TestWithoutWrites(t *testing.T) {
	s := make1(t, 2)
	txs := []*call.Txs{{}, {}}
	check := func(task int, x api.Call, want api.Errno, steps, marked int) {
		t.Helper()
		s.Log.Invoke(task)
		m := ends.New(x, txs[task])
		for n := 1; n <= steps; n++ {
			if a := m.Answer(); !same(a, api.Answer{}) {
				t.Errorf("%+v is answered ahead of its end: %+v", x, a)
			}
			if done := m.Step(s, task); done != (n == steps) {
				t.Errorf("%+v: done %v with the step %d", x, done, n)
			}
			if _, is, _ := s.Log.Under(task); is != (n >= marked) {
				t.Errorf("%+v: marked %v with the step %d", x, is, n)
			}
			if s.Latches.All() != 0 {
				t.Errorf("%+v holds something", x)
			}
		}
		if a := m.Answer(); !same(a, api.Answer{Err: want}) {
			t.Errorf("%+v: %+v, not %v", x, a, want)
		}
		s.Log.Return(task, api.Answer{})
	}
	begin := api.Call{Kind: api.Begin}
	for n := 1; n <= 6; n++ {
		check(n%2, begin, api.OK, 2, 2)
		if w, is := txs[n%2].Of((n + 1) / 2); w != n || !is {
			t.Errorf("the %d-th one's number: %d, %v", n, w, is)
		}
	}
	check(0, begin, api.Full, 2, 2)
	if txs[0].Len() != 3 || s.Table.Active() != 6 {
		t.Error("behind one that was refused:", txs[0].Len())
	}
	check(0, api.Call{Kind: api.Commit, Tx: 4}, api.NoTxn, 1, 1)
	check(0, api.Call{Kind: api.Abort, Tx: -1}, api.NoTxn, 1, 1)
	check(0, api.Call{Kind: api.Commit, Tx: 2}, api.OK, 2, 2)
	check(1, api.Call{Kind: api.Abort, Tx: 2}, api.OK, 2, 2)
	check(0, api.Call{Kind: api.Commit, Tx: 2}, api.Done, 1, 1)
	check(0, api.Call{Kind: api.Abort, Tx: 2}, api.Done, 1, 1)
	check(1, api.Call{Kind: api.Commit, Tx: 2}, api.Done, 1, 1)
	if s.Table.State(4) != status.Committed || s.Table.State(3) != status.Aborted || s.Table.Active() != 4 {
		t.Error(s.Table.State(4), s.Table.State(3))
	}
	check(1, begin, api.OK, 2, 2)
	if w, _ := txs[1].Of(4); w != 7 {
		t.Error("the number of all:", w)
	}
	for k := range 256 {
		kind := uint8(k)
		if kind == api.Begin || kind == api.Commit || kind == api.Abort {
			continue
		}
		m, was := ends.New(api.Call{Kind: kind, Tx: 1, Key: "a", Engine: 1}, txs[0]), told(s)
		if !m.Step(s, 0) || !same(m.Answer(), api.Answer{}) || told(s) != was {
			t.Errorf("the Kind %d: %+v", kind, m.Answer())
		}
	}
	var _ ends.Machine = ends.New(begin, nil)
	if ends.Vacuums != 4 || ends.Ferry != 5 {
		t.Error("the latches' kinds")
	}
}

// P21.2: an Abort of one new key, and what is held and done by each step.
func TestAbortOfOne(t *testing.T) {
	for _, home := range []uint8{1, 2} {
		s, txs := make1(t, home), &call.Txs{}
		do(t, s, 0, api.Call{Kind: api.Begin}, txs)
		if e := write(t, s, 1, "k", false); e != api.OK {
			t.Fatal(e)
		}
		h, _ := s.Tree.Find("k")
		s.Log.Invoke(0)
		m := ends.New(api.Call{Kind: api.Abort, Tx: 1}, txs)
		at := anchored(h)
		w, n := word(), node(1)
		for k, want := range [][]latch.Name{{}, {}, {w}, {n}, {at}, {at}, {at}, {at}, {at}, {}, {w}, {n}, {n, at}, {n, at}, {n, at}, {n, at}, {}, {}} {
			done := m.Step(s, 0)
			if got := s.Latches.Held(0); !slices.Equal(got, want) || done != (k == 17) {
				t.Errorf("home %d, the step %d: holds %v, not %v; done %v", home, k+1, got, want, done)
			}
			_, row, is := s.Anchor(h)
			_, has := s.Tree.Find("k")
			if (row != 0) != (k < 7) || is != (k < 16) || has != (k < 15) || (s.A.Used()+s.B.Used() > 0) != (k < 8) {
				t.Errorf("home %d, the step %d: row %d, anchor %v, key %v, slots %d", home, k+1, row, is, has, s.A.Used()+s.B.Used())
			}
			state := status.Active
			if k >= 1 {
				state = status.Falling
			}
			if k == 17 {
				state = status.Aborted
			}
			if got := s.Table.State(1); got != state {
				t.Errorf("home %d, the step %d: state %d", home, k+1, got)
			}
			if _, marked, _ := s.Log.Under(0); marked != (k >= 1) {
				t.Errorf("home %d, the step %d: marked %v", home, k+1, marked)
			}
		}
	}
}

// P21.2: a key of which something is kept is not to be taken out: nobody goes down for it.
func TestAbortSteps(t *testing.T) {
	for _, home := range []uint8{1, 2} {
		for n := 1; n <= 3; n++ { // versions behind the intent
			s, txs := make1(t, home), &call.Txs{}
			for k := 1; k <= n+1; k++ {
				do(t, s, 0, api.Call{Kind: api.Begin}, txs)
				write(t, s, k, "k", false)
				if k <= n {
					do(t, s, 0, api.Call{Kind: api.Commit, Tx: k}, txs)
				}
			}
			// the head, the table; the root word, the leaf, the latch; the anchor, the versions; two for the Off; the table; the table
			want := 2 + 3 + 1 + (n + 1) + 2 + 1 + 1
			if _, steps := do(t, s, 0, api.Call{Kind: api.Abort, Tx: n + 1}, txs); steps != want {
				t.Errorf("home %d, %d versions: %d steps, not %d", home, n, steps, want)
			}
		}
		s, txs := make1(t, home), &call.Txs{} // another one's intent is there by now
		do(t, s, 0, api.Call{Kind: api.Begin}, txs)
		write(t, s, 1, "k", false)
		s.Log.Invoke(0)
		m := ends.New(api.Call{Kind: api.Abort, Tx: 1}, txs)
		m.Step(s, 0)
		m.Step(s, 0)
		do(t, s, 1, api.Call{Kind: api.Begin}, &call.Txs{})
		p := writer(2, "k", false)
		if !turns.Till(func() bool { return p.Step(s, 1) }) {
			t.Fatal("it does not end")
		}
		// the root word, the leaf, the latch; the anchor, the version; the table; the table
		if steps := run(t, s, 0, m); steps != 3+2+1+1 || s.A.Used()+s.B.Used() != 1 {
			t.Errorf("home %d, another one's: %d steps", home, steps)
		}
	}
}

// P21.2: intents on keys that have versions; one that another one took off; by rising keys; Exhausted.
func TestAbortOfMore(t *testing.T) {
	for _, home := range []uint8{1, 2} {
		s, txs := make1(t, home), &call.Txs{}
		begin := func() int {
			do(t, s, 0, api.Call{Kind: api.Begin}, txs)
			w, _ := txs.Of(txs.Len())
			return w
		}
		begin()
		write(t, s, 1, "a", false)
		write(t, s, 1, "c", false)
		do(t, s, 0, api.Call{Kind: api.Commit, Tx: 1}, txs)
		begin()
		for _, key := range []string{"d", "c", "a", "b"} {
			if e := write(t, s, 2, key, key == "a"); e != api.OK {
				t.Fatal(e)
			}
		}
		s.Log.Invoke(0)
		m := ends.New(api.Call{Kind: api.Abort, Tx: 2}, txs)
		m.Step(s, 0)
		m.Step(s, 0)
		other := &call.Txs{}
		do(t, s, 1, api.Call{Kind: api.Begin}, other)
		for _, key := range []string{"c", "d"} { // another one takes the falling one's intents off, and puts on its own
			p := writer(3, key, false)
			if !turns.Till(func() bool { return p.Step(s, 1) }) {
				t.Fatal("it does not end")
			}
			if e := p.Answer().Err; e != api.OK {
				t.Fatal(e)
			}
		}
		for steps := 0; !m.Step(s, 0); steps++ {
			if steps > 200 {
				t.Fatal("it does not end")
			}
		}
		var rows []string
		for _, key := range s.Tree.Keys() {
			h, _ := s.Tree.Find(key)
			_, r, _ := s.Anchor(h)
			l := append(s.A.List(r), s.B.List(r)...)
			for _, x := range l {
				key += fmt.Sprint(" ", x.Writer)
			}
			rows = append(rows, key)
		}
		if !slices.Equal(rows, []string{"a 1", "c 3 1", "d 3"}) || s.Anchors.Used() != 3 || s.A.Used()+s.B.Used() != 4 {
			t.Errorf("home %d: %v", home, rows)
		}
		if s.Table.State(2) != status.Aborted || s.Latches.All() != 0 || !same(m.Answer(), api.Answer{}) {
			t.Error(s.Table.State(2), m.Answer())
		}
	}
	c := config()
	c.TS = 1
	s, _ := row.New(c, 1)
	txs := &call.Txs{}
	for n := 1; n <= 2; n++ {
		do(t, s, 0, api.Call{Kind: api.Begin}, txs)
		write(t, s, n, "k", false)
		if a, _ := do(t, s, 0, api.Call{Kind: api.Commit, Tx: n}, txs); (a.Err == api.Exhausted) != (n == 2) {
			t.Error(n, a)
		}
	}
	if l := s.Tree.Keys(); !slices.Equal(l, []string{"k"}) || s.A.Used() != 1 || s.Table.State(2) != status.Aborted {
		t.Error(l, s.A.Used(), s.Table.State(2))
	}
}

// P21.1: finding, in each mode; what is held by each step.
func TestFind(t *testing.T) {
	s := make1(t, 1)
	for k, key := range []string{"a", "b", "c", "d", "e"} {
		h, _ := s.Make(1, 0)
		s.Tree.Insert(key, h)
		if h != api.Handle(uint64(9*k)<<32|1) {
			t.Fatal(h)
		}
	}
	for mode := range uint8(3) {
		for _, key := range []string{"c", "cc", "a", "zz"} {
			h, has := s.Tree.Find(key)
			f, alone := ends.NewFind(mode, key), crab.New(mode, key)
			l := latch.New()
			for n := 0; !alone.Step(s.Tree, l, 1); n++ {
				if f.Step(s, 1) || n > 9 {
					t.Fatal("done too early, or never")
				}
				if _, is := f.Anchor(); is || !slices.Equal(s.Latches.Held(1), l.Held(1)) {
					t.Fatal("on its way down:", s.Latches.Held(1))
				}
			}
			held := l.Held(1)
			if done := f.Step(s, 1); done != !has || !slices.Equal(s.Latches.Held(1), held) {
				t.Fatal("arrived:", done, s.Latches.Held(1))
			}
			if has {
				s.Latches.Try(anchored(h), 7)
				if mode != fork.Delete {
					held = held[len(held)-1:]
				}
				for range 3 {
					if f.Step(s, 1) {
						t.Fatal("another one has the anchor")
					}
					if _, is := f.Anchor(); is {
						t.Fatal("it has the anchor")
					}
					if got := s.Latches.Held(1); len(got) != len(held) || mode == fork.Delete && !slices.Equal(got, held) {
						t.Fatalf("mode %d holds %v, not %v", mode, got, held)
					}
				}
				s.Latches.Drop(anchored(h), 7)
				want := []latch.Name{anchored(h)}
				if mode == fork.Delete {
					want = append(held, anchored(h))
				}
				if !f.Step(s, 1) || !slices.Equal(s.Latches.Held(1), want) {
					t.Fatalf("mode %d holds %v, not %v", mode, s.Latches.Held(1), want)
				}
				s.Latches.Drop(anchored(h), 1)
			}
			if got, is := f.Anchor(); is != has || has && got != h || !has && got != 0 {
				t.Fatal("Anchor:", got, is)
			}
			if !f.Step(s, 1) || (len(f.Crab().Path()) > 0) != (!has || mode == fork.Delete) {
				t.Fatal("Crab:", f.Crab().Path())
			}
			f.Crab().Leave(s.Latches, 1)
			if s.Latches.All() != 0 {
				t.Fatal("left:", s.Latches.Held(1))
			}
		}
	}
}

// P21.1: taking out, where it may be, and where it may not.
func TestRemove(t *testing.T) {
	for _, home := range []uint8{1, 2} {
		s, txs := make1(t, home), &call.Txs{}
		for n := 1; n <= 2; n++ {
			do(t, s, 0, api.Call{Kind: api.Begin}, txs)
			write(t, s, n, "kept", false)
			write(t, s, n, "dead", n == 2)
			do(t, s, 0, api.Call{Kind: api.Commit, Tx: n}, txs)
		}
		do(t, s, 0, api.Call{Kind: api.Begin}, txs)
		write(t, s, 3, "busy", false)
		do(t, s, 0, api.Call{Kind: api.Begin}, txs)
		write(t, s, 4, "fall", false)
		s.Table.Abort(4)
		none, _ := s.Make(home, 0)
		s.Tree.Insert("none", none)
		for _, key := range []string{"kept", "dead", "busy", "fall"} {
			was := told(s)
			if run(t, s, 1, ends.NewRemove(key)); told(s) != was {
				t.Errorf("home %d: %q may not be taken out", home, key)
			}
		}
		do(t, s, 0, api.Call{Kind: api.Begin}, txs)
		write(t, s, 5, "once", false)
		do(t, s, 0, api.Call{Kind: api.Commit, Tx: 5}, txs)
		was := told(s)
		if run(t, s, 1, ends.NewRemove("once")); told(s) != was {
			t.Errorf("home %d: one version is to stay", home)
		}
		if n := run(t, s, 1, ends.NewRemove("zz")); n != 1+s.Tree.Levels() || told(s) != was {
			t.Error("a key that is not there:", n)
		}
		if n := run(t, s, 1, ends.NewRemove("none")); n != 1+s.Tree.Levels()+1+1+1+1+1 {
			t.Error("one of nothing:", n)
		}
		if _, is := s.Tree.Find("none"); is || s.Anchors.Is(none) || s.Latches.All() != 0 {
			t.Error("it is still there")
		}
		s.Table.Commit(3)
		s.Table.Vacuum()
		slots, levels := s.A.Used()+s.B.Used(), s.Tree.Levels()
		h, _ := s.Tree.Find("dead")
		n := run(t, s, 1, ends.NewRemove("dead"))
		if _, is := s.Tree.Find("dead"); is || s.Anchors.Is(h) || s.A.Used()+s.B.Used() != slots-2 || s.Latches.All() != 0 {
			t.Error("it is still there")
		}
		if low := 1 + levels + 1 + 3 + 1 + 3 + 1 + 1; n < low || n > low+4 {
			t.Error("in how many steps:", n, low)
		}
		if !s.Tree.Legal() {
			t.Error("the tree is not legal")
		}
	}
}

// P21.1: another anchor of the key, by the time that it is taken out.
func TestRemoveOfAnother(t *testing.T) {
	s := make1(t, 1)
	h, _ := s.Make(1, 0)
	s.Tree.Insert("k", h)
	r := ends.NewRemove("k")
	s.Latches.Try(node(1), 9)
	for range 5 {
		if r.Step(s, 1) {
			t.Fatal("done")
		}
	}
	k, _ := s.Make(2, 0)
	n, _ := s.Tree.Node(1)
	n.Rows[0] = k
	s.Tree.Set(1, n)
	s.Latches.Drop(node(1), 9)
	if !turns.Till(func() bool { return r.Step(s, 1) }) {
		t.Fatal("it does not end")
	}
	if s.Anchors.Is(k) || !s.Anchors.Is(h) || len(s.Tree.Keys()) != 0 {
		t.Error("the wrong anchor is given back")
	}
}

// P21.1, P21.5: a walk, alone: where it is, and in how many steps.
func TestWalk(t *testing.T) {
	for seed := range 60 {
		r := rand.New(rand.NewSource(int64(seed)))
		s := make1(t, 1)
		for range r.Intn(40) {
			h, _ := s.Make(1, 0)
			s.Tree.Insert(string(rune('a'+r.Intn(26))), h)
		}
		for range 10 {
			from, end := string(rune('a'+r.Intn(26))), ""
			if r.Intn(3) == 0 {
				from = ""
			}
			if r.Intn(2) == 0 {
				end = string(rune('a' + r.Intn(26)))
			}
			var want, got []string
			for _, key := range s.Tree.Keys() {
				if key >= from && (end == "" || key < end) {
					want = append(want, key)
				}
			}
			w, down, next := ends.NewWalk(from, end), 1+s.Tree.Levels(), from
			for {
				n := run(t, s, 1, w)
				key, anchor, is := w.At()
				c, l := crab.New(fork.Look, next), latch.New()
				if !turns.Till(func() bool { return c.Step(s.Tree, l, 1) }) {
					t.Fatal("it does not end")
				}
				_, _, here := c.Least(s.Tree)
				fence, fenced := c.Fence()
				steps := down
				if !here && fenced && (end == "" || fence < end) {
					steps += down
				}
				if !is {
					if key != "" || anchor != 0 || s.Latches.All() != 0 || n != steps {
						t.Fatalf("over: %q, %d, in %d steps, not %d", key, anchor, n, steps)
					}
					break
				}
				if h, _ := s.Tree.Find(key); h != anchor || !slices.Equal(s.Latches.Held(1), []latch.Name{anchored(h)}) || n != steps+1 {
					t.Fatalf("at %q: %d, holding %v, in %d steps, not %d", key, anchor, s.Latches.Held(1), n, steps+1)
				}
				got = append(got, key)
				next = key + "\x00"
				w.Next(s, 1)
				if _, _, is := w.At(); is || s.Latches.All() != 0 {
					t.Fatal("behind Next it is still there")
				}
				w.Next(s, 1)
			}
			if !slices.Equal(got, want) {
				t.Fatalf("from %q to %q: %q, not %q", from, end, got, want)
			}
		}
	}
}

// P21.1: a walk waits for an anchor, while it holds the leaf alone; then the anchor alone.
func TestWalkWaits(t *testing.T) {
	s := make1(t, 1)
	h, _ := s.Make(1, 0)
	s.Tree.Insert("k", h)
	s.Latches.Try(anchored(h), 9)
	w := ends.NewWalk("", "")
	for k, want := range [][]latch.Name{{word()}, {node(1)}, {node(1)}, {node(1)}} {
		if w.Step(s, 1) || !slices.Equal(s.Latches.Held(1), want) {
			t.Error(k, s.Latches.Held(1))
		}
		if _, _, is := w.At(); is {
			t.Error("it is at the key")
		}
	}
	s.Latches.Drop(anchored(h), 9)
	if !w.Step(s, 1) || !slices.Equal(s.Latches.Held(1), []latch.Name{anchored(h)}) {
		t.Error(s.Latches.Held(1))
	}
}

// actor is a task of a test among others.
type actor struct {
	txs   *call.Txs
	m     ends.Machine // a call of layer 21 that is under way
	p     *put.Put
	w     *ends.Walk
	been  []string
	there map[string]int // keys that were there at some time since the walk began; at all times: as often as it was asked
	asked int
	tx    int
	steps int
}

// P21.3 to P21.6: among others, by whatever turns.
func TestAmongOthers(t *testing.T) {
	for seed := range 60 {
		r := rand.New(rand.NewSource(int64(seed)))
		s := make1(t, uint8(1+seed%2))
		actors := make([]*actor, 4)
		for k := range actors {
			actors[k] = &actor{txs: &call.Txs{}}
		}
		for turn := 0; turn < 3000; turn++ {
			k := r.Intn(len(actors))
			act(t, r, s, k, actors[k], turn < 2200)
			watch(s, actors)
			if r.Intn(30) == 0 && turn < 2000 {
				s.Table.Vacuum()
			}
		}
		for k, a := range actors {
			if a.m != nil || a.p != nil || a.w != nil {
				t.Fatal("it does not end")
			}
			if n := len(s.Latches.Held(k)); n != 0 {
				t.Fatal("it holds", n)
			}
			for n := 1; n <= a.txs.Len(); n++ {
				if w, _ := a.txs.Of(n); s.Table.State(w) == status.Active {
					do(t, s, k, api.Call{Kind: api.Abort, Tx: n}, a.txs)
				}
			}
		}
		noTrace(t, s)
		numbers(t, s, actors)
	}
}

// act has an actor do a step, or begin something.
func act(t *testing.T, r *rand.Rand, s *row.Shop, task int, a *actor, more bool) {
	t.Helper()
	if a.steps++; a.steps > 2500 {
		t.Fatal("it does not end")
	}
	switch {
	case a.m != nil:
		if a.m.Step(s, task) {
			s.Log.Return(task, a.m.Answer())
			a.m, a.tx = nil, a.txs.Len()
		}
	case a.p != nil:
		if a.p.Step(s, task) {
			a.p = nil
		}
	case a.w != nil:
		if !a.w.Step(s, task) {
			return
		}
		if key, _, is := a.w.At(); is {
			a.been = append(a.been, key)
			a.w.Next(s, task)
			return
		}
		been(t, a)
		a.w = nil
	default:
		a.steps = 0
		if len(s.Latches.Held(task)) != 0 {
			t.Fatal("behind its end it holds", s.Latches.Held(task))
		}
		if more {
			begin(r, s, task, a)
		}
	}
}

func begin(r *rand.Rand, s *row.Shop, task int, a *actor) {
	w, _ := a.txs.Of(a.tx)
	switch k := r.Intn(12); {
	case k == 0:
		a.w, a.been, a.there, a.asked = ends.NewWalk("", ""), nil, map[string]int{}, 0
	case s.Table.State(w) != status.Active:
		a.m = ends.New(api.Call{Kind: api.Begin}, a.txs)
	case k < 8:
		a.p = writer(w, string(rune('a'+r.Intn(14))), r.Intn(4) == 0)
	case k < 9:
		a.m = ends.New(api.Call{Kind: api.Commit, Tx: a.tx}, a.txs)
	default:
		a.m = ends.New(api.Call{Kind: api.Abort, Tx: a.tx}, a.txs)
	}
	if a.m != nil {
		s.Log.Invoke(task)
	}
}

// watch counts for each walk which keys are there.
func watch(s *row.Shop, actors []*actor) {
	keys := map[string]int{}
	for _, id := range s.Tree.Nodes() {
		n, _ := s.Tree.Node(id)
		for _, key := range n.Keys {
			if n.Leaf {
				keys[key]++
			}
		}
	}
	for _, a := range actors {
		if a.w != nil {
			a.asked++
			for key := range keys {
				a.there[key]++
			}
		}
	}
}

// been tells whether a walk was at just the keys that it was to be at.
func been(t *testing.T, a *actor) {
	t.Helper()
	for k, key := range a.been {
		if k > 0 && a.been[k-1] >= key || a.there[key] == 0 {
			t.Fatalf("it was at %q", a.been)
		}
	}
	for key, n := range a.there {
		if n == a.asked && n > 0 && !slices.Contains(a.been, key) {
			t.Fatalf("it was not at %q, but at %q", key, a.been)
		}
	}
}

// noTrace tells whether of what was aborted there is nothing left.
func noTrace(t *testing.T, s *row.Shop) {
	t.Helper()
	if !s.Tree.Legal() || s.Latches.All() != 0 {
		t.Fatal("the tree, the latches")
	}
	slots := 0
	for _, key := range s.Tree.Keys() {
		h, _ := s.Tree.Find(key)
		_, r, is := s.Anchor(h)
		l := append(s.A.List(r), s.B.List(r)...)
		slots += len(l)
		for _, x := range l {
			if s.Table.State(x.Writer) != status.Committed {
				t.Fatalf("of %q: %v, whose writer is %d", key, l, s.Table.State(x.Writer))
			}
		}
		if intents, keep := s.Table.Sort(l); !is || intents+keep == 0 && s.Table.Floor() == 0 {
			t.Fatalf("%q has nothing", key)
		}
	}
	if s.A.Used()+s.B.Used() != slots || s.Anchors.Used() != len(s.Tree.Keys()) {
		t.Fatal("slots that are nobody's:", s.A.Used(), s.B.Used(), slots)
	}
}

// numbers tells whether each transaction is of one task, and has ended.
func numbers(t *testing.T, s *row.Shop, actors []*actor) {
	t.Helper()
	all := map[int]int{}
	for _, a := range actors {
		last := 0
		for n := 1; n <= a.txs.Len(); n++ {
			w, _ := a.txs.Of(n)
			if all[w]++; w <= last {
				t.Fatal("not in the row of the Begins:", w, last)
			}
			last = w
		}
	}
	for w := 1; s.Table.State(w) != status.None; w++ {
		if x := s.Table.State(w); all[w] != 1 || x != status.Committed && x != status.Aborted {
			t.Fatal(w, all[w], x)
		}
	}
}

// R1: of nil, and of a nil shop.
func TestNil(t *testing.T) {
	s := make1(t, 1)
	was := told(s)
	var h *ends.Head
	var f *ends.Find
	var r *ends.Remove
	var w *ends.Walk
	var e *ends.Ends
	w.Next(s, 1)
	if h.Look(s, 1) || !f.Step(s, 1) || !r.Step(s, 1) || !w.Step(s, 1) || !e.Step(s, 1) || !same(e.Answer(), api.Answer{}) || f.Crab() != nil {
		t.Error("of nil")
	}
	if x, is := f.Anchor(); x != 0 || is {
		t.Error("Anchor")
	}
	if key, x, is := w.At(); key != "" || x != 0 || is {
		t.Error("At")
	}
	f, r, w, e = ends.NewFind(fork.Look, "a"), ends.NewRemove("a"), ends.NewWalk("", ""), ends.New(api.Call{Kind: api.Begin}, nil)
	w.Next(nil, 1)
	w.Next(s, 1)
	if !f.Step(nil, 1) || !r.Step(nil, 1) || !w.Step(nil, 1) || !e.Step(nil, 1) || told(s) != was {
		t.Error("of a nil shop")
	}
	if x, is := f.Anchor(); x != 0 || is {
		t.Error("Anchor")
	}
	if f.Step(s, 1) || r.Step(s, 2) || e.Step(s, 1) {
		t.Error("behind a nil shop")
	}
	if h = (&ends.Head{Call: api.Call{Kind: api.Get, Tx: 1, Key: "a"}}); h.Look(nil, 1) || h.Look(s, 1) || h.Told.Err != api.NoTxn {
		t.Error("of no transactions:", h.Told)
	}
}

func TestExamples(t *testing.T) {
	s, txs := make1(t, 1), &call.Txs{}
	if a, n := do(t, s, 0, api.Call{Kind: api.Begin}, txs); n != 2 || a.Err != api.OK {
		t.Error(a, n)
	}
	if a, n := do(t, s, 0, api.Call{Kind: api.Commit, Tx: 5}, txs); n != 1 || a.Err != api.NoTxn {
		t.Error(a, n)
	}
	write(t, s, 1, "k", false)
	if a, n := do(t, s, 0, api.Call{Kind: api.Abort, Tx: 1}, txs); n != 18 || a.Err != api.OK {
		t.Error(a, n)
	}
}
