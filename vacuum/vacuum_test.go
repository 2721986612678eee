package vacuum_test

import (
	"fmt"
	"math/rand"
	"slices"
	"testing"

	"ferryman/api"
	"ferryman/call"
	"ferryman/crab"
	"ferryman/ends"
	"ferryman/latch"
	"ferryman/model"
	"ferryman/put"
	"ferryman/row"
	"ferryman/vacuum"
)

func config() api.Config {
	return api.Config{Tasks: 4, Active: 4, Keys: 9, Depth: 4, TS: 500, KeyLen: 2, ValLen: 3, Fan: 3}
}

func make1(t *testing.T, c api.Config, home uint8) *row.Shop {
	t.Helper()
	s, e := row.New(c, home)
	if e != api.OK {
		t.Fatal(e)
	}
	return s
}

func anchored(h api.Handle) latch.Name { return latch.Name{Kind: crab.Anchor, ID: uint64(h)} }

func same(a, b api.Answer) bool {
	return a.Err == b.Err && a.Found == b.Found && a.Value == b.Value && slices.Equal(a.Pairs, b.Pairs)
}

func machine(x api.Call, txs *call.Txs) ends.Machine {
	switch x.Kind {
	case api.Put, api.Delete:
		return put.New(x, txs)
	case api.Vacuum:
		return vacuum.New(x)
	}
	return ends.New(x, txs)
}

// marked is a call, in the row of the marks.
type marked struct {
	task int
	x    api.Call
	a    api.Answer
}

// task is a task, and the call that is under way.
type task struct {
	txs  call.Txs
	m    ends.Machine
	x    api.Call
	mark *marked
}

// driver is tasks that go by turns.
type driver struct {
	t     *testing.T
	s     *row.Shop
	c     api.Config
	tasks []*task
	marks []*marked
}

func newDriver(t *testing.T, c api.Config, home uint8) *driver {
	d := &driver{t: t, s: make1(t, c, home), c: c}
	for range c.Tasks {
		d.tasks = append(d.tasks, &task{})
	}
	return d
}

func (d *driver) invoke(k int, x api.Call) {
	d.s.Log.Invoke(k)
	d.tasks[k].x, d.tasks[k].m, d.tasks[k].mark = x, machine(x, &d.tasks[k].txs), nil
}

// step has a task's machine do a step; whether it is done.
func (d *driver) step(k int) bool {
	d.t.Helper()
	x := d.tasks[k]
	done := x.m.Step(d.s, k)
	if _, is, _ := d.s.Log.Under(k); is && x.mark == nil {
		x.mark = &marked{task: k, x: x.x}
		d.marks = append(d.marks, x.mark)
	}
	if !done {
		return false
	}
	if x.mark == nil || !x.m.Step(d.s, k) {
		d.t.Fatalf("%+v made no mark, or goes on", x.x)
	}
	x.mark.a = x.m.Answer()
	if held := d.s.Latches.Held(k); len(held) != 0 {
		d.t.Fatalf("behind its end %+v holds %v", x.x, held)
	}
	d.s.Log.Return(k, x.mark.a)
	x.m = nil
	return true
}

// do has a task do a call, alone; in how many steps.
func (d *driver) do(k int, x api.Call) (api.Answer, int) {
	d.t.Helper()
	d.invoke(k, x)
	for n := 1; n < 2000; n++ {
		if d.step(k) {
			return d.tasks[k].mark.a, n
		}
	}
	d.t.Fatalf("%+v does not end", x)
	return api.Answer{}, 0
}

func (d *driver) finish() {
	d.t.Helper()
	for round := 0; ; round++ {
		under := false
		for k, x := range d.tasks {
			if x.m != nil {
				under = true
				d.step(k)
			}
		}
		if !under {
			return
		}
		if round > 5000 {
			d.t.Fatal("they do not end")
		}
	}
}

// check holds the answers against the model, and the rows.
func (d *driver) check() *model.Model {
	d.t.Helper()
	m, _ := model.New(d.c)
	for n, x := range d.marks {
		if want := m.Do(x.task, x.x); !same(x.a, want) {
			d.t.Fatalf("the %d-th mark: %d, %+v: %+v, the model %+v", n, x.task, x.x, x.a, want)
		}
	}
	keys := m.Keys()
	if !d.s.Tree.Legal() || !slices.Equal(d.s.Tree.Keys(), keys) || d.s.Anchors.Used() != len(keys) || d.s.Table.Keys() != len(keys) {
		d.t.Fatalf("the directory: %q, not %q; %d anchors", d.s.Tree.Keys(), keys, d.s.Anchors.Used())
	}
	for _, key := range keys {
		var want []api.Version
		if v, is := m.Intent(key); is {
			want = append(want, v)
		}
		want = append(want, m.Versions(key)...)
		if got := d.row(key); !slices.EqualFunc(got, want, func(a, b api.Version) bool { return a.Writer == b.Writer && a.Tomb == b.Tomb && a.Value == b.Value }) {
			d.t.Fatalf("%q has %v, not %v", key, got, want)
		}
	}
	if n := d.s.A.Used() + d.s.B.Used(); n != m.Retained() || d.s.Latches.All() != 0 || d.s.Table.Floor() != m.Floor() {
		d.t.Fatalf("%d slots, not %d; the floor %d, not %d", n, m.Retained(), d.s.Table.Floor(), m.Floor())
	}
	return m
}

// row tells what stands in a key's row.
func (d *driver) row(key string) []api.Version {
	h, _ := d.s.Tree.Find(key)
	_, top, _ := d.s.Anchor(h)
	return append(d.s.A.List(top), d.s.B.List(top)...)
}

// some is some call of a task.
func (d *driver) some(r *rand.Rand, k int) api.Call {
	n := d.tasks[k].txs.Len()
	w, _ := d.tasks[k].txs.Of(n)
	if r.Intn(8) == 0 {
		return api.Call{Kind: api.Vacuum}
	}
	if d.s.Table.State(w) != 1 {
		return api.Call{Kind: api.Begin}
	}
	return api.Call{Kind: []uint8{3, 3, 3, 3, 4, 4, 6, 6, 7}[r.Intn(9)], Tx: n, Key: string(rune('a' + r.Intn(12))), Value: fmt.Sprint(r.Intn(100))}
}

// P25.2, P25.3, P25.5: whatever turns.
func TestAmongOthers(t *testing.T) {
	vacuums := 0
	for seed := range 150 {
		r := rand.New(rand.NewSource(int64(seed)))
		c := config()
		c.Keys, c.Depth = 3+r.Intn(8), 2+r.Intn(4)
		d := newDriver(t, c, uint8(1+seed%2))
		for range 2000 {
			if k := r.Intn(c.Tasks); d.tasks[k].m == nil {
				d.invoke(k, d.some(r, k))
			} else {
				d.step(k)
			}
			d.oneVacuum()
		}
		d.finish()
		d.check()
		for _, x := range d.marks {
			if x.x.Kind == api.Vacuum {
				vacuums++
			}
		}
	}
	if vacuums < 500 {
		t.Error("too few Vacuums:", vacuums)
	}
}

// oneVacuum tells whether of those that are under way one at most has its mark, or had the latch.
func (d *driver) oneVacuum() {
	d.t.Helper()
	marked := 0
	for k, x := range d.tasks {
		if x.m != nil && x.x.Kind == api.Vacuum && x.mark != nil {
			marked++
			if who, is := d.s.Latches.Owner(latch.Name{Kind: ends.Vacuums}); !is || who != k {
				d.t.Fatal("it has its mark, and not the latch")
			}
		}
	}
	if marked > 1 {
		d.t.Fatal("two Vacuums at once")
	}
}

// P25.4: behind a Vacuum from whose beginning on nothing else was under way, and no transaction active.
func TestSwept(t *testing.T) {
	for seed := range 60 {
		r := rand.New(rand.NewSource(int64(seed)))
		d := newDriver(t, config(), uint8(1+seed%2))
		for range 1000 {
			if k := r.Intn(4); d.tasks[k].m == nil {
				d.invoke(k, d.some(r, k))
			} else {
				d.step(k)
			}
		}
		d.finish()
		for k, x := range d.tasks {
			for n := 1; n <= x.txs.Len(); n++ {
				if w, _ := x.txs.Of(n); d.s.Table.State(w) == 1 {
					d.do(k, api.Call{Kind: []uint8{api.Commit, api.Abort}[r.Intn(2)], Tx: n})
				}
			}
		}
		d.do(0, api.Call{Kind: api.Vacuum})
		m := d.check()
		for _, key := range m.Keys() {
			if l := d.row(key); len(l) != 1 || l[0].Tomb {
				t.Fatalf("%q has %v", key, l)
			}
		}
		if d.s.A.Used()+d.s.B.Used() != len(m.Keys()) || d.s.Table.Dead() != 0 {
			t.Fatal("slots:", d.s.A.Used()+d.s.B.Used())
		}
	}
}

// writes has a task write a key, and commit, so often; then delete it.
func (d *driver) writes(key string, times int, gone bool) {
	for k := range times {
		d.do(0, api.Call{Kind: api.Begin})
		x := api.Call{Kind: api.Put, Tx: d.tasks[0].txs.Len(), Key: key, Value: fmt.Sprint(k)}
		if gone && k == times-1 {
			x.Kind = api.Delete
		}
		d.do(0, x)
		d.do(0, api.Call{Kind: api.Commit, Tx: x.Tx})
	}
}

// P25.1: in how many steps, by the words; in undo the segments go first.
func TestSteps(t *testing.T) {
	for _, home := range []uint8{1, 2} {
		d := newDriver(t, config(), home)
		check := func(what string, want int) {
			t.Helper()
			if a, n := d.do(1, api.Call{Kind: api.Vacuum}); n != want || !same(a, api.Answer{}) {
				t.Errorf("home %d, %s: %d steps, not %d; %+v", home, what, n, want, a)
			}
			d.check()
		}
		// at a key: its latch, the anchor, the versions (or one that names nothing, too), the table, the sweep; then to the next one
		key := func(reads, sweep int) int { return 1 + 1 + reads + 1 + sweep + 2 }
		undo := home == 2
		check("of nothing", 6)
		d.writes("a", 1, false)
		check("one version", 6+key(1, 0))
		d.writes("a", 1, false)
		if undo { // the records are given back ahead of the walk
			check("two versions", 6+1+key(2, 0))
		} else {
			check("two versions", 6+key(2, 2))
		}
		d.writes("a", 3, false)
		if undo {
			check("four versions", 6+3+key(2, 0))
		} else {
			check("four versions", 6+key(4, 4))
		}
		d.do(2, api.Call{Kind: api.Begin}) // an intent, and a version: the key is not to be taken out
		d.do(2, api.Call{Kind: api.Put, Tx: d.tasks[2].txs.Len(), Key: "a"})
		check("an intent", 6+key(2, 0))
		d.do(2, api.Call{Kind: api.Abort, Tx: d.tasks[2].txs.Len()})
		d.writes("a", 1, true)
		out := 7 // the root word, the leaf, the latch, the anchor, the table, the leaf, the anchor
		if undo {
			check("a tomb", 6+1+key(2, 2)+out)
		} else {
			check("a tomb", 6+key(2, 3)+out)
		}
	}
}

// P25.1: what it holds by each step.
func TestHolds(t *testing.T) {
	d := newDriver(t, config(), 2)
	d.writes("a", 2, true)
	h, _ := d.s.Tree.Find("a")
	v, w, n, at := latch.Name{Kind: ends.Vacuums}, latch.Name{Kind: crab.Word}, latch.Name{Kind: crab.Node, ID: 1}, anchored(h)
	d.s.Latches.Try(v, 9)
	d.s.Latches.Try(at, 9)
	d.invoke(1, api.Call{Kind: api.Vacuum})
	for k, want := range [][]latch.Name{
		{}, {}, {}, {v}, {v}, // the head, two tries that fail, one that does not, the table
		{v},                                     // the record
		{w, v}, {n, v}, {n, v}, {n, v}, {at, v}, // to the key, two tries that fail
		{at, v}, {at, v}, {at, v}, {at, v}, // the anchor, the row, no record, the table
		{at, v}, {v}, // the anchor, the row's slot
		{w, v}, {n, v}, {n, at, v}, {n, at, v}, {n, at, v}, {n, at, v}, {v}, // it is taken out
		{w, v}, {v}, {}, // over
	} {
		if k == 3 {
			d.s.Latches.Drop(v, 9)
		}
		if k == 10 {
			d.s.Latches.Drop(at, 9)
		}
		done := d.step(1)
		if got := d.s.Latches.Held(1); !slices.Equal(got, want) || done != (k == 26) {
			t.Errorf("the step %d: %v, not %v; done %v", k+1, got, want, done)
		}
		if (d.tasks[1].mark != nil) != (k >= 4) {
			t.Errorf("the mark, by the step %d", k+1)
		}
		if used := d.s.B.Used(); used != 2 && k < 5 || used != 1 && k >= 5 && k < 16 || used != 0 && k >= 16 {
			t.Errorf("%d slots by the step %d", used, k+1)
		}
	}
	d.check()
}

// P25.1: records of writers up to the floor alone, the writers rising; a step that finds none any more does nothing.
func TestSegments(t *testing.T) {
	d := newDriver(t, config(), 2)
	d.writes("a", 2, false)
	d.writes("b", 2, false)
	d.do(1, api.Call{Kind: api.Begin}) // it holds the horizon back
	d.writes("a", 1, false)
	if l := d.s.B.Segments(); !slices.Equal(l, []int{2, 4, 6}) {
		t.Fatal(l)
	}
	d.invoke(2, api.Call{Kind: api.Vacuum})
	for range 3 {
		d.step(2)
	}
	for k, want := range [][]int{{4, 6}, {6}, {6}} {
		d.step(2)
		if l := d.s.B.Segments(); !slices.Equal(l, want) {
			t.Errorf("the step %d: %v, not %v", k+4, l, want)
		}
	}
	for d.tasks[2].m != nil {
		d.step(2)
	}
	d.check()
	d.do(1, api.Call{Kind: api.Abort, Tx: 1})
	d.invoke(2, api.Call{Kind: api.Vacuum})
	for range 3 {
		d.step(2)
	}
	d.s.B.Pop(6) // somebody else gives it back
	d.step(2)
	if held := d.s.Latches.Held(2); len(held) != 1 {
		t.Error("it does more than nothing:", held)
	}
	d.step(2)
	if held := d.s.Latches.Held(2); len(held) != 2 {
		t.Error("then it walks:", held)
	}
	for d.tasks[2].m != nil {
		d.step(2)
	}
	d.check()
}

// P25.1: of another Kind; of nil.
func TestNothing(t *testing.T) {
	d := newDriver(t, config(), 1)
	d.writes("a", 2, false)
	was := fmt.Sprint(d.s.Table.Floor(), d.s.Latches.All(), d.s.A.Used(), d.s.Log.Events())
	for k := range 256 {
		if uint8(k) == api.Vacuum {
			continue
		}
		if v := vacuum.New(api.Call{Kind: uint8(k), Tx: 1, Engine: 1}); !v.Step(d.s, 0) || !same(v.Answer(), api.Answer{}) {
			t.Errorf("the Kind %d", k)
		}
	}
	var none *vacuum.Vacuum
	v := vacuum.New(api.Call{Kind: api.Vacuum, Tx: -1, Key: "too large"})
	if !none.Step(d.s, 0) || !same(none.Answer(), api.Answer{}) || !v.Step(nil, 0) || !same(v.Answer(), api.Answer{}) {
		t.Error("of nil")
	}
	if was != fmt.Sprint(d.s.Table.Floor(), d.s.Latches.All(), d.s.A.Used(), d.s.Log.Events()) {
		t.Error("something was done")
	}
	if v.Step(d.s, 0) {
		t.Error("behind a nil shop it goes on")
	}
	var _ ends.Machine = v
}

func TestExamples(t *testing.T) {
	d := newDriver(t, config(), 1)
	if _, n := d.do(0, api.Call{Kind: api.Vacuum}); n != 6 {
		t.Error(n)
	}
	d = newDriver(t, config(), 1)
	d.writes("k", 2, false)
	if _, n := d.do(1, api.Call{Kind: api.Vacuum}); n != 15 {
		t.Error(n)
	}
}
