package get_test

import (
	"fmt"
	"math/rand"
	"slices"
	"strings"
	"testing"

	"ferryman/api"
	"ferryman/call"
	"ferryman/crab"
	"ferryman/ends"
	"ferryman/fork"
	"ferryman/get"
	"ferryman/latch"
	"ferryman/row"
	"ferryman/status"
)

func config() api.Config {
	return api.Config{Tasks: 6, Active: 4, Keys: 20, Depth: 6, TS: 500, KeyLen: 3, ValLen: 6, Fan: 3}
}

func make1(t *testing.T, home uint8) *row.Shop {
	t.Helper()
	s, e := row.New(config(), home)
	if e != api.OK {
		t.Fatal(e)
	}
	return s
}

func anchored(h api.Handle) latch.Name { return latch.Name{Kind: crab.Anchor, ID: uint64(h)} }

func same(a, b api.Answer) bool {
	return a.Err == b.Err && a.Found == b.Found && a.Value == b.Value && slices.Equal(a.Pairs, b.Pairs)
}

// stepper is what goes step by step.
type stepper interface {
	Step(s *row.Shop, task int) bool
}

// putter puts a value, or a tomb, on a key, as layer 23 will: the table judges, and the row is written while the anchor is held.
type putter struct {
	w       int
	key     string
	v       api.Version
	find    *ends.Find
	collect *row.Collect
	plans   []*row.Plan
	wrote   bool
	stage   int
	anchor  api.Handle
}

func newPutter(w int, key, value string, tomb bool) *putter {
	mode := fork.Insert
	if tomb {
		mode = fork.Look
	}
	return &putter{w: w, key: key, v: api.Version{Writer: w, Value: value, Tomb: tomb}, find: ends.NewFind(mode, key)}
}

func (p *putter) end(s *row.Shop, task int) bool {
	p.stage = 9
	s.Latches.Drop(anchored(p.anchor), task)
	return true
}

func (p *putter) Step(s *row.Shop, task int) bool {
	switch p.stage {
	case 0:
		if p.find.Step(s, task) {
			p.stage = 1
			if h, has := p.find.Anchor(); has {
				p.stage, p.anchor, p.collect = 3, h, row.NewCollect(h)
			}
		}
	case 1:
		j := s.Table.Judge(p.w, p.key, nil, p.v.Tomb)
		if p.wrote = j.Write; !j.Write {
			p.find.Crab().Leave(s.Latches, task)
			p.stage = 9
			return true
		}
		p.anchor, _ = s.Make(j.Home, 0)
		s.Latches.Try(anchored(p.anchor), task)
		p.plans = []*row.Plan{row.Put(row.Row{Anchor: p.anchor, Engine: j.Home}, p.v, false)}
		p.stage = 2
	case 2:
		if p.find.Crab().Put(s.Tree, p.anchor) {
			p.find.Crab().Leave(s.Latches, task)
			p.stage = 4
		}
	case 3:
		if p.collect.Step(s) {
			return p.judge(s, task)
		}
	case 4:
		for len(p.plans) > 0 && p.plans[0].Len() == 0 {
			p.plans = p.plans[1:]
		}
		if len(p.plans) == 0 {
			return p.end(s, task)
		}
		p.plans[0].Step(s)
	}
	return p.stage == 9
}

func (p *putter) judge(s *row.Shop, task int) bool {
	r := p.collect.Row()
	j := s.Table.Judge(p.w, p.key, r.Versions, p.v.Tomb)
	if p.wrote = j.Write; !j.Write {
		return p.end(s, task)
	}
	if j.Off {
		var off *row.Plan
		off, r = row.Off(r)
		p.plans = append(p.plans, off)
	}
	k := j.Keep
	if j.Own {
		k++
	}
	sweep, r := row.Sweep(r, k)
	p.plans = append(p.plans, sweep, row.Put(r, p.v, j.Own))
	p.stage = 4
	return false
}

// run has something go to its end, alone; in how many steps.
func run(t *testing.T, s *row.Shop, task int, x stepper) int {
	t.Helper()
	for n := 1; n < 300; n++ {
		if x.Step(s, task) {
			return n
		}
	}
	t.Fatal("it does not end")
	return 0
}

func do(t *testing.T, s *row.Shop, task int, x api.Call, txs *call.Txs) {
	t.Helper()
	s.Log.Invoke(task)
	m := ends.New(x, txs)
	run(t, s, task, m)
	s.Log.Return(task, m.Answer())
}

// world is rows, and what the words say that is to be read of them.
type world struct {
	s    *row.Shop
	hist map[string][]api.Version       // by keys what was committed, the oldest first
	own  map[int]map[string]api.Version // by writers what they wrote last
	txs  []*call.Txs
	n    int
}

func newWorld(t *testing.T, home uint8) *world {
	o := &world{s: make1(t, home), hist: map[string][]api.Version{}, own: map[int]map[string]api.Version{}}
	for range 3 {
		o.txs = append(o.txs, &call.Txs{})
	}
	return o
}

// committed makes what a writer wrote known, when the table has its timestamp.
func (o *world) committed(w int) {
	if ts, is := o.s.Table.TS(w); is {
		for key, v := range o.own[w] {
			v.TS = ts
			o.hist[key] = append(o.hist[key], v)
		}
		delete(o.own, w)
	}
}

// reads tells what a writer is to read of a key.
func (o *world) reads(w, snapshot int, key string) api.Answer {
	v, is := o.own[w][key]
	if !is {
		for _, x := range o.hist[key] {
			if x.TS <= snapshot {
				v, is = x, true
			}
		}
	}
	if !is || v.Tomb {
		return api.Answer{}
	}
	return api.Answer{Found: true, Value: v.Value}
}

// worker is a task, and what it is at.
type worker struct {
	task, tx int
	x        stepper
	call     api.Call
	p        *putter
	twins    [2]*get.Get // one Get, by two tasks
	want     api.Answer
}

func (w *worker) writer(o *world) int {
	n, _ := o.txs[w.task].Of(w.tx)
	return n
}

// begin begins something.
func (w *worker) begin(r *rand.Rand, o *world) {
	s, n, key := o.s, w.writer(o), string(rune('a'+r.Intn(9)))
	switch k := r.Intn(14); {
	case s.Table.State(n) != status.Active:
		w.call = api.Call{Kind: api.Begin}
		s.Log.Invoke(w.task)
		w.x = ends.New(w.call, o.txs[w.task])
	case k < 4:
		o.n++
		w.p = newPutter(n, key, fmt.Sprint(o.n), false)
	case k < 5:
		w.p = newPutter(n, key, "", true)
	case k < 11:
		snapshot, _ := s.Table.Snapshot(n)
		w.call = api.Call{Kind: api.Get, Tx: w.tx, Key: key}
		w.want = o.reads(n, snapshot, key)
		w.twins = [2]*get.Get{get.New(w.call, o.txs[w.task]), get.New(w.call, o.txs[w.task])}
		s.Log.Invoke(w.task)
		s.Log.Invoke(w.task + 3)
	case k < 12:
		w.x, w.call = ends.NewRemove(key), api.Call{}
	default:
		w.call = api.Call{Kind: []uint8{api.Commit, api.Abort}[r.Intn(2)], Tx: w.tx}
		s.Log.Invoke(w.task)
		w.x = ends.New(w.call, o.txs[w.task])
	}
}

// step goes on with what it is at.
func (w *worker) step(t *testing.T, r *rand.Rand, o *world) {
	t.Helper()
	s, n := o.s, w.writer(o)
	switch {
	case w.twins[0] != nil || w.twins[1] != nil:
		w.look(t, r, o)
	case w.p != nil:
		done := w.p.Step(s, w.task)
		if w.p.wrote {
			if o.own[n] == nil {
				o.own[n] = map[string]api.Version{}
			}
			o.own[n][w.p.key] = w.p.v
		}
		if done {
			w.p = nil
		}
	case w.x != nil:
		before := s.Table.State(n)
		done := w.x.Step(s, w.task)
		if before == status.Active && s.Table.State(n) != status.Active {
			o.committed(n)
		}
		if done {
			if w.call.Kind != 0 {
				s.Log.Return(w.task, api.Answer{})
			}
			w.x, w.tx = nil, o.txs[w.task].Len()
		}
	default:
		w.begin(r, o)
	}
}

// look has one of the twins do a step.
func (w *worker) look(t *testing.T, r *rand.Rand, o *world) {
	t.Helper()
	k := r.Intn(2)
	if w.twins[k] == nil {
		k = 1 - k
	}
	task, g := w.task+3*k, w.twins[k]
	if a := g.Answer(); !same(a, api.Answer{}) {
		t.Fatal("answered ahead of its end:", a)
	}
	done := g.Step(o.s, task)
	if _, marked, is := o.s.Log.Under(task); !is || marked != done {
		t.Fatalf("marked %v, done %v", marked, done)
	}
	if !done {
		return
	}
	if a := g.Answer(); !same(a, w.want) {
		t.Fatalf("%+v by the snapshot of %d: %+v, not %+v", w.call, w.writer(o), a, w.want)
	}
	if held := o.s.Latches.Held(task); len(held) != 0 {
		t.Fatal("behind its end it holds", held)
	}
	if !g.Step(o.s, task) || !same(g.Answer(), w.want) {
		t.Fatal("a step more")
	}
	o.s.Log.Return(task, g.Answer())
	w.twins[k] = nil
}

// atOnce does something to a row at once, if nobody has its anchor: it is ferried, or swept, or a version of it is stamped.
func atOnce(r *rand.Rand, s *row.Shop, key string) {
	var h api.Handle
	for _, id := range s.Tree.Nodes() {
		n, _ := s.Tree.Node(id)
		if at, is := fork.Place(n, key); is && n.Leaf {
			h = n.Rows[at]
		}
	}
	if h == 0 || !s.Latches.Try(anchored(h), 9) {
		return
	}
	defer s.Latches.Drop(anchored(h), 9)
	c := row.NewCollect(h)
	for !c.Step(s) {
	}
	found := c.Row()
	intents, keep := s.Table.Sort(found.Versions)
	p, _ := row.Sweep(found, intents+keep)
	if r.Intn(2) == 0 {
		p = row.Move(found, intents+keep, 3-found.Engine)
	}
	for !p.Step(s) {
	}
}

// P22.2 to P22.5: whatever goes on, ahead of, between, behind a Get's steps.
func TestAmongOthers(t *testing.T) {
	for seed := range 60 {
		r := rand.New(rand.NewSource(int64(seed)))
		o := newWorld(t, uint8(1+seed%2))
		workers := []*worker{{task: 0}, {task: 1}, {task: 2}}
		for range 2500 {
			workers[r.Intn(3)].step(t, r, o)
			switch r.Intn(12) {
			case 0, 1:
				atOnce(r, o.s, string(rune('a'+r.Intn(9))))
			case 2:
				if r.Intn(4) == 0 {
					o.s.Table.Vacuum()
				}
			case 3:
				popped(o.s, r)
			}
		}
	}
}

// popped gives back a record of a writer up to the floor.
func popped(s *row.Shop, r *rand.Rand) {
	for _, w := range s.B.Segments() {
		if ts, is := s.Table.TS(w); is && ts <= s.Table.Floor() && r.Intn(2) == 0 {
			s.B.Pop(w)
			return
		}
	}
}

// told is all of a shop that is to be seen, but timestamps of chains' versions.
func told(s *row.Shop) string {
	out := fmt.Sprint(s.Table.Clock(), s.Table.Floor(), s.Table.Active(), s.Table.Keys(), s.Table.Dead(), s.Tree.Root(), s.Latches.All(), s.Anchors.Used(), s.A.Used(), s.B.Used())
	for _, id := range s.Tree.Nodes() {
		n, _ := s.Tree.Node(id)
		out += fmt.Sprint("|", id, n)
		for _, h := range n.Rows {
			e, r, is := s.Anchor(h)
			l := s.A.List(r)
			for k := range l {
				l[k].TS = 0
			}
			out += fmt.Sprint(" ", e, r, is, l, s.B.List(r))
		}
	}
	return out
}

// P22.1, P22.4, P22.5: alone: in how many steps, and what it leaves.
func TestAlone(t *testing.T) {
	for seed := range 40 {
		r := rand.New(rand.NewSource(int64(seed)))
		s, txs := make1(t, uint8(1+seed%2)), &call.Txs{}
		for n := 1; n <= 12; n++ {
			do(t, s, 0, api.Call{Kind: api.Begin}, txs)
			for range r.Intn(5) {
				run(t, s, 0, newPutter(n, string(rune('a'+r.Intn(6))), fmt.Sprint(n), r.Intn(4) == 0))
			}
			if r.Intn(4) > 0 || s.Table.Active() == 4 {
				do(t, s, 0, api.Call{Kind: []uint8{api.Commit, api.Commit, api.Abort}[r.Intn(3)], Tx: n}, txs)
			}
		}
		for range 40 {
			n, key := 1+r.Intn(12), string(rune('a'+r.Intn(8)))
			w, _ := txs.Of(n)
			was, versions := told(s), 0
			h, has := s.Tree.Find(key)
			_, top, _ := s.Anchor(h)
			versions = len(s.A.List(top)) + len(s.B.List(top))
			s.Log.Invoke(1)
			g := get.New(api.Call{Kind: api.Get, Tx: n, Key: key}, txs)
			steps := 0
			for done := false; !done; steps++ {
				done = g.Step(s, 1)
				if _, marked, _ := s.Log.Under(1); marked != done {
					t.Fatal("marked with the step", steps+1)
				}
			}
			s.Log.Return(1, g.Answer())
			active := s.Table.State(w) == status.Active
			switch {
			case !active && (steps != 1 || !same(g.Answer(), api.Answer{Err: api.Done})),
				active && !has && steps != 2+s.Tree.Levels(),
				active && steps > 4+s.Tree.Levels()+3*versions:
				t.Fatalf("%d steps, %d levels, %d versions; active %v: %+v", steps, s.Tree.Levels(), versions, active, g.Answer())
			}
			if told(s) != was {
				t.Fatalf("it changed something: %s, %s", was, told(s))
			}
			for _, x := range s.A.List(top) {
				if ts, _ := s.Table.TS(x.Writer); x.TS != 0 && x.TS != ts {
					t.Fatal("a timestamp that the table does not tell:", x, ts)
				}
			}
		}
	}
}

// P22.1: what a Get holds by each of its steps; it waits for the anchor.
func TestHolds(t *testing.T) {
	for _, home := range []uint8{1, 2} {
		s, txs := make1(t, home), &call.Txs{}
		do(t, s, 0, api.Call{Kind: api.Begin}, txs)
		run(t, s, 0, newPutter(1, "a", "x", false))
		h, _ := s.Tree.Find("a")
		s.Latches.Try(anchored(h), 9)
		s.Log.Invoke(0)
		g := get.New(api.Call{Kind: api.Get, Tx: 1, Key: "a"}, txs)
		leaf, at := latch.Name{Kind: crab.Node, ID: 1}, anchored(h)
		for k, want := range [][]latch.Name{{}, {{Kind: crab.Word}}, {leaf}, {leaf}, {leaf}, {at}, {at}, {}} {
			if k == 5 {
				s.Latches.Drop(at, 9)
			}
			if done := g.Step(s, 0); done != (k == 7) || !slices.Equal(s.Latches.Held(0), want) {
				t.Errorf("home %d, the step %d: %v, not %v; done %v", home, k+1, s.Latches.Held(0), want, done)
			}
		}
		if a := g.Answer(); !same(a, api.Answer{Found: true, Value: "x"}) {
			t.Error(a)
		}
	}
}

// P22.1: calls that are refused, and of another Kind; of nil.
func TestRefused(t *testing.T) {
	s, txs := make1(t, 1), &call.Txs{}
	do(t, s, 0, api.Call{Kind: api.Begin}, txs)
	do(t, s, 0, api.Call{Kind: api.Begin}, txs)
	do(t, s, 0, api.Call{Kind: api.Abort, Tx: 2}, txs)
	for _, x := range []struct {
		tx   int
		key  string
		want api.Errno
	}{{3, "a", api.NoTxn}, {0, "", api.NoTxn}, {2, "abcd", api.Done}, {1, "abcd", api.TooLarge}, {1, "", api.TooLarge}, {1, "abc", api.OK}} {
		s.Log.Invoke(1)
		g := get.New(api.Call{Kind: api.Get, Tx: x.tx, Key: x.key, Value: strings.Repeat("x", 99), Limit: -1}, txs)
		done := g.Step(s, 1)
		_, marked, _ := s.Log.Under(1)
		if refused := x.want != api.OK; done != refused || marked != refused || refused && !same(g.Answer(), api.Answer{Err: x.want}) {
			t.Errorf("%+v: %v, marked %v, %+v", x, done, marked, g.Answer())
		}
		if !done {
			run(t, s, 1, g)
		}
		s.Log.Return(1, g.Answer())
	}
	was := told(s)
	for k := range 256 {
		if uint8(k) == api.Get {
			continue
		}
		g := get.New(api.Call{Kind: uint8(k), Tx: 1, Key: "a"}, txs)
		if !g.Step(s, 1) || !same(g.Answer(), api.Answer{}) || told(s) != was {
			t.Errorf("the Kind %d", k)
		}
	}
	var none *get.Get
	g := get.New(api.Call{Kind: api.Get, Tx: 1, Key: "a"}, txs)
	if !none.Step(s, 1) || !same(none.Answer(), api.Answer{}) || !g.Step(nil, 1) || !same(g.Answer(), api.Answer{}) || told(s) != was {
		t.Error("of nil")
	}
	if g.Step(s, 1) {
		t.Error("behind a nil shop it goes on")
	}
	g = get.New(api.Call{Kind: api.Get, Tx: 1, Key: "a"}, nil)
	if !g.Step(s, 1) || g.Answer().Err != api.NoTxn {
		t.Error("of no transactions:", g.Answer())
	}
	var _ ends.Machine = g
}

func TestExamples(t *testing.T) {
	s, txs := make1(t, 1), &call.Txs{}
	do(t, s, 0, api.Call{Kind: api.Begin}, txs)
	run(t, s, 0, newPutter(1, "a", "x", false))
	do(t, s, 0, api.Call{Kind: api.Commit, Tx: 1}, txs)
	do(t, s, 0, api.Call{Kind: api.Begin}, txs)
	for _, x := range []struct {
		tx    int
		key   string
		steps int
		want  api.Answer
	}{{2, "a", 8, api.Answer{Found: true, Value: "x"}}, {2, "b", 3, api.Answer{}}, {9, "a", 1, api.Answer{Err: api.NoTxn}}, {2, "a", 6, api.Answer{Found: true, Value: "x"}}} {
		g := get.New(api.Call{Kind: api.Get, Tx: x.tx, Key: x.key}, txs)
		if n := run(t, s, 0, g); n != x.steps || !same(g.Answer(), x.want) {
			t.Errorf("%+v: %d steps, %+v", x, n, g.Answer())
		}
	}
}
