package migrate_test

import (
	"fmt"
	"math/rand"
	"slices"
	"testing"

	"ferryman/api"
	"ferryman/call"
	"ferryman/crab"
	"ferryman/ends"
	"ferryman/latch"
	"ferryman/migrate"
	"ferryman/model"
	"ferryman/put"
	"ferryman/row"
	"ferryman/vacuum"
)

func config() api.Config {
	return api.Config{Tasks: 4, Active: 4, Keys: 9, Depth: 4, TS: 500, KeyLen: 2, ValLen: 3, Fan: 3}
}

func make1(t *testing.T, c api.Config, home uint8) *row.Shop {
	t.Helper()
	s, e := row.New(c, home)
	if e != api.OK {
		t.Fatal(e)
	}
	return s
}

func anchored(h api.Handle) latch.Name { return latch.Name{Kind: crab.Anchor, ID: uint64(h)} }

func same(a, b api.Answer) bool {
	return a.Err == b.Err && a.Found == b.Found && a.Value == b.Value && slices.Equal(a.Pairs, b.Pairs)
}

func machine(x api.Call, txs *call.Txs) ends.Machine {
	switch x.Kind {
	case api.Put, api.Delete:
		return put.New(x, txs)
	case api.Vacuum:
		return vacuum.New(x)
	case api.Migrate:
		return migrate.New(x, txs)
	}
	return ends.New(x, txs)
}

// marked is a call, in the row of the marks.
type marked struct {
	task int
	x    api.Call
	a    api.Answer
}

// task is a task, and the call that is under way.
type task struct {
	txs  call.Txs
	m    ends.Machine
	x    api.Call
	mark *marked
}

// driver is tasks that go by turns.
type driver struct {
	t     *testing.T
	s     *row.Shop
	c     api.Config
	tasks []*task
	marks []*marked
}

func newDriver(t *testing.T, c api.Config, home uint8) *driver {
	d := &driver{t: t, s: make1(t, c, home), c: c}
	for range c.Tasks {
		d.tasks = append(d.tasks, &task{})
	}
	return d
}

func (d *driver) invoke(k int, x api.Call) {
	d.s.Log.Invoke(k)
	d.tasks[k].x, d.tasks[k].m, d.tasks[k].mark = x, machine(x, &d.tasks[k].txs), nil
}

// step has a task's machine do a step; whether it is done.
func (d *driver) step(k int) bool {
	d.t.Helper()
	x := d.tasks[k]
	done := x.m.Step(d.s, k)
	if _, is, _ := d.s.Log.Under(k); is && x.mark == nil {
		x.mark = &marked{task: k, x: x.x}
		d.marks = append(d.marks, x.mark)
	}
	if !done {
		return false
	}
	if x.mark == nil || !x.m.Step(d.s, k) {
		d.t.Fatalf("%+v made no mark, or goes on", x.x)
	}
	x.mark.a = x.m.Answer()
	if held := d.s.Latches.Held(k); len(held) != 0 {
		d.t.Fatalf("behind its end %+v holds %v", x.x, held)
	}
	d.s.Log.Return(k, x.mark.a)
	x.m = nil
	return true
}

// do has a task do a call, alone; in how many steps.
func (d *driver) do(k int, x api.Call) (api.Answer, int) {
	d.t.Helper()
	d.invoke(k, x)
	for n := 1; n < 2000; n++ {
		if d.step(k) {
			return d.tasks[k].mark.a, n
		}
	}
	d.t.Fatalf("%+v does not end", x)
	return api.Answer{}, 0
}

func (d *driver) finish() {
	d.t.Helper()
	for round := 0; ; round++ {
		under := false
		for k, x := range d.tasks {
			if x.m != nil {
				under = true
				d.step(k)
			}
		}
		if !under {
			return
		}
		if round > 5000 {
			d.t.Fatal("they do not end")
		}
	}
}

// check holds the answers against the model, and the rows.
func (d *driver) check() *model.Model {
	d.t.Helper()
	m, _ := model.New(d.c)
	for n, x := range d.marks {
		if want := m.Do(x.task, x.x); !same(x.a, want) {
			d.t.Fatalf("the %d-th mark: %d, %+v: %+v, the model %+v", n, x.task, x.x, x.a, want)
		}
	}
	keys := m.Keys()
	if !d.s.Tree.Legal() || !slices.Equal(d.s.Tree.Keys(), keys) || d.s.Anchors.Used() != len(keys) || d.s.Table.Keys() != len(keys) {
		d.t.Fatalf("the directory: %q, not %q; %d anchors", d.s.Tree.Keys(), keys, d.s.Anchors.Used())
	}
	for _, key := range keys {
		var want []api.Version
		if v, is := m.Intent(key); is {
			want = append(want, v)
		}
		want = append(want, m.Versions(key)...)
		if got := d.row(key); !slices.EqualFunc(got, want, func(a, b api.Version) bool { return a.Writer == b.Writer && a.Tomb == b.Tomb && a.Value == b.Value }) {
			d.t.Fatalf("%q has %v, not %v", key, got, want)
		}
	}
	if n := d.s.A.Used() + d.s.B.Used(); n != m.Retained() || d.s.Latches.All() != 0 || d.s.Table.Floor() != m.Floor() {
		d.t.Fatalf("%d slots, not %d; the floor %d, not %d", n, m.Retained(), d.s.Table.Floor(), m.Floor())
	}
	return m
}

// row tells what stands in a key's row.
func (d *driver) row(key string) []api.Version {
	h, _ := d.s.Tree.Find(key)
	_, top, _ := d.s.Anchor(h)
	return append(d.s.A.List(top), d.s.B.List(top)...)
}

// some is some call of a task.
func (d *driver) some(r *rand.Rand, k int) api.Call {
	n := d.tasks[k].txs.Len()
	w, _ := d.tasks[k].txs.Of(n)
	switch r.Intn(16) {
	case 0:
		return api.Call{Kind: api.Vacuum}
	case 1, 2:
		return api.Call{Kind: api.Migrate, Engine: uint8(1 + r.Intn(2))}
	}
	if d.s.Table.State(w) != 1 {
		return api.Call{Kind: api.Begin}
	}
	return api.Call{Kind: []uint8{3, 3, 3, 3, 4, 4, 6, 6, 7}[r.Intn(9)], Tx: n, Key: string(rune('a' + r.Intn(12))), Value: fmt.Sprint(r.Intn(100))}
}

// under tells whether a call of a Kind is under way, and how many of these have their mark.
func (d *driver) under(kind uint8) (calls, marks int) {
	for _, x := range d.tasks {
		if x.m != nil && x.x.Kind == kind {
			calls++
			if x.mark != nil {
				marks++
			}
		}
	}
	return calls, marks
}

// ferried tells whether all anchors are of an engine, and the other one has no slots.
func (d *driver) ferried(engine uint8) bool {
	for _, id := range d.s.Tree.Nodes() {
		n, _ := d.s.Tree.Node(id)
		for _, h := range n.Rows {
			if e, _, _ := d.s.Anchor(h); e != engine {
				return false
			}
		}
	}
	if engine == api.Chains {
		return d.s.B.Used() == 0
	}
	return d.s.A.Used() == 0
}

// P26.2 to P26.4: whatever turns.
func TestAmongOthers(t *testing.T) {
	migrates, ended := 0, 0
	for seed := range 150 {
		r := rand.New(rand.NewSource(int64(seed)))
		c := config()
		c.Keys, c.Depth = 3+r.Intn(8), 2+r.Intn(4)
		d := newDriver(t, c, uint8(1+seed%2))
		for range 2000 {
			k := r.Intn(c.Tasks)
			x := d.tasks[k]
			if x.m == nil {
				d.invoke(k, d.some(r, k))
				continue
			}
			last, before := x.mark, len(d.marks)
			if !d.step(k) || x.x.Kind != api.Migrate {
				d.oneFerry()
				continue
			}
			migrates++
			if last == nil || before != len(d.marks) {
				t.Fatal("its mark was the last step")
			}
			another := false
			at := slices.Index(d.marks, x.mark)
			for _, y := range d.marks[at+1:] {
				another = another || y.x.Kind == api.Migrate
			}
			vacuums, _ := d.under(api.Vacuum)
			if another {
				t.Fatal("another one had its mark ahead of its end")
			}
			if vacuums == 0 {
				ended++
				if !d.ferried(x.x.Engine) || d.s.Table.Home() != x.x.Engine {
					t.Fatalf("not all is ferried to %d: %d and %d slots", x.x.Engine, d.s.A.Used(), d.s.B.Used())
				}
			}
		}
		d.finish()
		d.check()
	}
	if migrates < 500 || ended < 300 {
		t.Error("too few Migrates:", migrates, ended)
	}
}

// oneFerry tells whether of those that are under way one at most has its mark, and that one the latch.
func (d *driver) oneFerry() {
	d.t.Helper()
	if _, marks := d.under(api.Migrate); marks > 1 {
		d.t.Fatal("two Migrates at once")
	}
	for k, x := range d.tasks {
		if x.m == nil || x.x.Kind != api.Migrate || x.mark == nil {
			continue
		}
		if who, is := d.s.Latches.Owner(latch.Name{Kind: ends.Ferry}); !is || who != k {
			d.t.Fatal("it has its mark, and not the latch")
		}
	}
}

// filled is tasks by which rows came to be, some with intents, also a falling one's.
func filled(t *testing.T, r *rand.Rand, home uint8) *driver {
	d := newDriver(t, config(), home)
	for range 60 {
		k := r.Intn(4)
		if x := d.some(r, k); x.Kind != api.Migrate {
			d.do(k, x)
		}
	}
	for k, x := range d.tasks {
		n := x.txs.Len()
		if w, _ := x.txs.Of(n); d.s.Table.State(w) == 1 && k == 3 { // it goes on being a falling one
			d.do(k, api.Call{Kind: api.Put, Tx: n, Key: "z", Value: "z"})
			d.s.Table.Abort(w)
		}
	}
	return d
}

// rows tells of each key what stands in its row, and what of it is kept.
func (d *driver) rows() (all, kept map[string]string) {
	all, kept = map[string]string{}, map[string]string{}
	for _, key := range d.s.Tree.Keys() {
		l := d.row(key)
		for k := range l {
			l[k].TS = 0
		}
		intents, keep := d.s.Table.Sort(l)
		all[key], kept[key] = fmt.Sprint(l), fmt.Sprint(l[:intents+keep])
	}
	return all, kept
}

// P26.2, P26.5: alone: what is kept is the same; slots, in the midst.
func TestAlone(t *testing.T) {
	for seed := range 60 {
		r := rand.New(rand.NewSource(int64(seed)))
		home := uint8(1 + seed%2)
		d := filled(t, r, home)
		if r.Intn(2) == 0 {
			d.s.Table.Vacuum()
		}
		_, kept := d.rows()
		used, keys, anchors := d.s.A.Used()+d.s.B.Used(), fmt.Sprint(d.s.Tree.Keys()), d.s.Anchors.Used()
		table := fmt.Sprint(d.s.Table.Keys(), d.s.Table.Dead(), d.s.Table.Clock(), d.s.Table.Floor())
		d.invoke(0, api.Call{Kind: api.Migrate, Engine: 3 - home})
		for !d.step(0) {
			if n := d.s.A.Used() + d.s.B.Used(); n > used+d.c.Depth+1 {
				t.Fatalf("%d slots, ahead of it %d", n, used)
			}
		}
		all, now := d.rows()
		for key := range kept {
			if now[key] != kept[key] || all[key] != kept[key] {
				t.Fatalf("%q: %s, was %s", key, all[key], kept[key])
			}
		}
		if !d.ferried(3-home) || fmt.Sprint(d.s.Tree.Keys()) != keys || d.s.Anchors.Used() != anchors || d.s.Table.Home() != 3-home {
			t.Fatal("not ferried:", d.s.A.Used(), d.s.B.Used())
		}
		if table != fmt.Sprint(d.s.Table.Keys(), d.s.Table.Dead(), d.s.Table.Clock(), d.s.Table.Floor()) {
			t.Fatal("it did something to the table")
		}
	}
}

// P26.1: in how many steps, by the words.
func TestSteps(t *testing.T) {
	for _, home := range []uint8{1, 2} {
		for versions := range 4 {
			d := newDriver(t, config(), home)
			for n := 1; n <= versions; n++ {
				d.do(0, api.Call{Kind: api.Begin})
				d.do(0, api.Call{Kind: api.Put, Tx: n, Key: "a", Value: fmt.Sprint(n)})
				d.do(0, api.Call{Kind: api.Commit, Tx: n})
			}
			if versions == 0 { // a row of nothing
				h, _ := d.s.Make(home, 0)
				d.s.Tree.Insert("a", h)
			}
			made := versions // of chains; of undo the row's slot, then a record and the row for each
			if home == 1 && versions > 0 {
				made = 1 + 2*(versions-1)
			}
			want := 3 + 3 + 1 + 1 + versions + 1 + made + 1 + versions + 2 + 1
			if _, n := d.do(1, api.Call{Kind: api.Migrate, Engine: 3 - home}); n != want {
				t.Errorf("home %d, %d versions: %d steps, not %d", home, versions, n, want)
			}
			if _, n := d.do(1, api.Call{Kind: api.Migrate, Engine: 3 - home}); n != 10 {
				t.Errorf("home %d, once more: %d steps", home, n)
			}
			if versions > 0 {
				d.check()
			}
			if !d.ferried(3 - home) {
				t.Error("not ferried")
			}
		}
	}
}

// P26.1: what it holds by each step.
func TestHolds(t *testing.T) {
	d := newDriver(t, config(), 1)
	d.do(0, api.Call{Kind: api.Begin})
	d.do(0, api.Call{Kind: api.Put, Tx: 1, Key: "a"})
	h, _ := d.s.Tree.Find("a")
	f, w, n, at := latch.Name{Kind: ends.Ferry}, latch.Name{Kind: crab.Word}, latch.Name{Kind: crab.Node, ID: 1}, anchored(h)
	d.s.Latches.Try(f, 9)
	d.s.Latches.Try(at, 9)
	d.invoke(1, api.Call{Kind: api.Migrate, Engine: 2})
	for k, want := range [][]latch.Name{
		{}, {}, {}, {f}, {f}, // the head, two tries that fail, one that does not, the table
		{w, f}, {n, f}, {n, f}, {n, f}, {at, f}, // to the key, two tries that fail
		{at, f}, {at, f}, {at, f}, {at, f}, {at, f}, {at, f}, {f}, // the anchor; the anchor, the version; the table; a slot, the anchor, the old slot
		{w, f}, {f}, {}, // over
	} {
		if k == 3 {
			d.s.Latches.Drop(f, 9)
		}
		if k == 9 {
			d.s.Latches.Drop(at, 9)
		}
		done := d.step(1)
		if got := d.s.Latches.Held(1); !slices.Equal(got, want) || done != (k == 19) {
			t.Errorf("the step %d: %v, not %v; done %v", k+1, got, want, done)
		}
		home := uint8(1)
		if k >= 4 {
			home = 2
		}
		if (d.tasks[1].mark != nil) != (k >= 4) || d.s.Table.Home() != home {
			t.Errorf("the mark, by the step %d; the home %d", k+1, d.s.Table.Home())
		}
	}
	d.check()
}

// P26.3: a Put that judged its new key ahead of the mark, and puts it in behind it, in the old engine: the walk comes by, as the leaf was held.
func TestJudgedAhead(t *testing.T) {
	for _, home := range []uint8{1, 2} {
		d := newDriver(t, config(), home)
		d.do(0, api.Call{Kind: api.Begin})
		d.do(0, api.Call{Kind: api.Put, Tx: 1, Key: "a", Value: "1"})
		d.invoke(0, api.Call{Kind: api.Put, Tx: 1, Key: "k", Value: "2"})
		for d.tasks[0].mark == nil {
			d.step(0)
		}
		d.invoke(1, api.Call{Kind: api.Migrate, Engine: 3 - home})
		for range 30 {
			d.step(1)
		}
		if d.tasks[1].mark == nil || d.tasks[1].m == nil {
			t.Fatal("it is not under way behind its mark")
		}
		for d.tasks[0].m != nil {
			d.step(0)
			d.step(1)
		}
		for d.tasks[1].m != nil {
			d.step(1)
		}
		if !d.ferried(3 - home) {
			t.Errorf("home %d: %d, %d slots", home, d.s.A.Used(), d.s.B.Used())
		}
		d.check()
	}
}

// P26.1: what is refused; of another Kind; of nil.
func TestNothing(t *testing.T) {
	d := newDriver(t, config(), 1)
	for _, engine := range []uint8{0, 3, 255} {
		if a, n := d.do(0, api.Call{Kind: api.Migrate, Engine: engine}); !same(a, api.Answer{Err: api.ErrArg}) || n != 1 || d.s.Table.Home() != 1 {
			t.Error(engine, a, n)
		}
	}
	was := fmt.Sprint(d.s.Table.Home(), d.s.Latches.All(), d.s.Log.Events())
	for k := range 256 {
		if uint8(k) == api.Migrate {
			continue
		}
		if m := migrate.New(api.Call{Kind: uint8(k), Tx: 1, Engine: 2}, nil); !m.Step(d.s, 0) || !same(m.Answer(), api.Answer{}) {
			t.Errorf("the Kind %d", k)
		}
	}
	var none *migrate.Migrate
	m := migrate.New(api.Call{Kind: api.Migrate, Engine: 2}, nil)
	if !none.Step(d.s, 0) || !same(none.Answer(), api.Answer{}) || !m.Step(nil, 0) || !same(m.Answer(), api.Answer{}) {
		t.Error("of nil")
	}
	if was != fmt.Sprint(d.s.Table.Home(), d.s.Latches.All(), d.s.Log.Events()) {
		t.Error("something was done")
	}
	if m.Step(d.s, 0) {
		t.Error("behind a nil shop it goes on")
	}
	var _ ends.Machine = m
}

func TestExamples(t *testing.T) {
	d := newDriver(t, config(), 1)
	if _, n := d.do(0, api.Call{Kind: api.Migrate, Engine: 2}); n != 6 {
		t.Error(n)
	}
	d = newDriver(t, config(), 1)
	d.do(0, api.Call{Kind: api.Begin})
	d.do(0, api.Call{Kind: api.Put, Tx: 1, Key: "a"})
	for _, want := range []int{16, 10} {
		if _, n := d.do(1, api.Call{Kind: api.Migrate, Engine: 2}); n != want {
			t.Error(n, want)
		}
	}
}
