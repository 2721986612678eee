// Package turns has machines go by turns, and holds their answers against the model. It is there for the tests of the machines.
package turns

import (
	"slices"
	"strconv"

	"ferryman/api"
	"ferryman/call"
	"ferryman/crab"
	"ferryman/ends"
	"ferryman/fork"
	"ferryman/latch"
	"ferryman/model"
	"ferryman/row"
)

// patience is how many steps, or rounds, anything may take.
const patience = 5000

// Maker makes the machine of a call.
type Maker func(x api.Call, txs *call.Txs) ends.Machine

// Marked is a call that has its mark.
type Marked struct {
	Task   int
	Call   api.Call
	Answer api.Answer // when it is done
}

// Task is a task, and the call that is under way, or was last.
type Task struct {
	Txs     call.Txs
	Call    api.Call
	Mark    *Marked // nil: it has none
	Machine ends.Machine
}

// Turns is tasks that go by turns.
type Turns struct {
	Shop   *row.Shop
	Tasks  []*Task
	Marks  []*Marked                 // in their row
	Behind func(task int, done bool) // if there is one, it is called behind each step
	maker  Maker
	fail   func(what string)
}

// New makes tasks in a shop of nothing; fail is told what is not as it is to be.
func New(c api.Config, home uint8, maker Maker, fail func(what string)) *Turns {
	shop, e := row.New(c, home)
	if e != api.OK {
		fail("the shop: " + e.Error())
		return nil
	}
	d := &Turns{Shop: shop, maker: maker, fail: fail}
	for range c.Tasks {
		d.Tasks = append(d.Tasks, &Task{})
	}
	return d
}

// Under tells whether a call of a task is under way.
func (d *Turns) Under(task int) bool { return d.Tasks[task].Machine != nil }

// Till does something again and again, till it is done; no: that takes too long.
func Till(done func() bool) bool {
	for range patience {
		if done() {
			return true
		}
	}
	return false
}

// Invoke begins a task's call.
func (d *Turns) Invoke(task int, x api.Call) {
	d.Shop.Log.Invoke(task)
	t := d.Tasks[task]
	t.Call, t.Mark = x, nil
	t.Machine = d.maker(x, &t.Txs)
}

// Step has a task's machine do a step; whether it is done.
func (d *Turns) Step(task int) bool {
	t := d.Tasks[task]
	done := t.Machine.Step(d.Shop, task)
	if _, marked, _ := d.Shop.Log.Under(task); marked && t.Mark == nil {
		t.Mark = &Marked{Task: task, Call: t.Call}
		d.Marks = append(d.Marks, t.Mark)
	}
	if d.Behind != nil {
		d.Behind(task, done)
	}
	if done {
		d.end(task)
	}
	return done
}

// end has a call that is done return.
func (d *Turns) end(task int) {
	t := d.Tasks[task]
	what := d.told(task, t.Call) + ": "
	if t.Mark == nil {
		d.fail(what + "it made no mark")
		return
	}
	t.Mark.Answer = t.Machine.Answer()
	if len(d.Shop.Latches.Held(task)) > 0 {
		d.fail(what + "behind its end it holds something")
	}
	if !t.Machine.Step(d.Shop, task) || !model.Same(t.Machine.Answer(), t.Mark.Answer) {
		d.fail(what + "a step more does something")
	}
	d.Shop.Log.Return(task, t.Mark.Answer)
	t.Machine = nil
}

func (d *Turns) told(task int, x api.Call) string {
	return "task " + strconv.Itoa(task) + ", " + call.Show(x)
}

// Do has a task do a call, alone; in how many steps.
func (d *Turns) Do(task int, x api.Call) (api.Answer, int) {
	d.Invoke(task, x)
	n := 0
	if !Till(func() bool { n++; return d.Step(task) }) {
		d.fail(d.told(task, x) + ": it does not end")
	}
	return d.Tasks[task].Mark.Answer, n
}

// Finish gives all tasks turns, till none has a call under way.
func (d *Turns) Finish() {
	if !Till(func() bool { return !d.Round() }) {
		d.fail("they do not end")
	}
}

// Round gives all tasks a turn; whether any has a call under way.
func (d *Turns) Round() bool {
	under := false
	for task := range d.Tasks {
		if d.Under(task) {
			under = true
			d.Step(task)
		}
	}
	return under
}

// Active tells whether a task's last transaction is active, and its number.
func (d *Turns) Active(task int) (int, bool) {
	t := d.Tasks[task]
	w, is := t.Txs.Of(t.Txs.Len())
	return t.Txs.Len(), is && d.Shop.Table.State(w) == 1
}

// Vacuum makes the floor another one, as a Vacuum's mark does.
func (d *Turns) Vacuum() {
	d.Shop.Table.Vacuum()
	d.Marks = append(d.Marks, &Marked{Call: api.Call{Kind: api.Vacuum}})
}

// AtOnce ferries, or sweeps, a key's row at once, if nobody has its anchor.
func (d *Turns) AtOnce(key string, ferried bool) {
	s := d.Shop
	const nobody = -1
	h := d.anchor(key)
	name := latch.Name{Kind: crab.Anchor, ID: uint64(h)}
	if h == 0 || !s.Latches.Try(name, nobody) {
		return
	}
	c := row.NewCollect(h)
	if !Till(func() bool { return c.Step(s) }) {
		d.fail("a row goes on and on")
	}
	found := c.Row()
	intents, keep := s.Table.Sort(found.Versions)
	p, _ := row.Sweep(found, intents+keep)
	if ferried {
		p = row.Move(found, intents+keep, 3-found.Engine)
	}
	if !Till(func() bool { return p.Step(s) }) {
		d.fail("a plan goes on and on")
	}
	s.Latches.Drop(name, nobody)
}

// anchor looks for a key's anchor in all leaves, as the tree may be in the midst of something; 0: there is none.
func (d *Turns) anchor(key string) api.Handle {
	for _, id := range d.Shop.Tree.Nodes() {
		n, _ := d.Shop.Tree.Node(id)
		if at, is := fork.Place(n, key); is && n.Leaf {
			return n.Rows[at]
		}
	}
	return 0
}

// Answers holds the answers, in the row of the marks, against the model; the model behind them.
func (d *Turns) Answers() *model.Model {
	m, _ := model.New(d.Shop.C)
	for _, x := range d.Marks {
		if want := m.Do(x.Task, x.Call); !model.Same(x.Answer, want) {
			d.fail(d.told(x.Task, x.Call) + ": " + call.Tell(x.Answer) + ", the model " + call.Tell(want))
		}
	}
	return m
}

// Row tells what stands in a key's row.
func (d *Turns) Row(key string) []api.Version {
	_, top, _ := d.Shop.Anchor(d.anchor(key))
	return append(d.Shop.A.List(top), d.Shop.B.List(top)...)
}

// Slots tells how many slots of both engines are used.
func (d *Turns) Slots() int { return d.Shop.A.Used() + d.Shop.B.Used() }

// Check holds the answers, and the rows, against the model: these have just its versions and intents, and no other slot is used.
func (d *Turns) Check() *model.Model {
	m, s := d.Answers(), d.Shop
	keys := m.Keys()
	if !s.Tree.Legal() || !slices.Equal(s.Tree.Keys(), keys) || s.Anchors.Used() != len(keys) || s.Table.Keys() != len(keys) {
		d.fail("the directory has other keys than the model")
	}
	for _, key := range keys {
		want := m.Versions(key)
		if v, is := m.Intent(key); is {
			want = slices.Insert(want, 0, v)
		}
		if !slices.EqualFunc(d.Row(key), want, Same) {
			d.fail("the row of " + strconv.Quote(key) + " is not as the model's")
		}
	}
	if d.Slots() != m.Retained() || s.Latches.All() != 0 || s.Table.Floor() != m.Floor() {
		d.fail("other slots are used, latches are held, or the floor is another one")
	}
	return m
}

// Same tells whether two versions are the same, but for timestamps: not all of those that stand in rows are stamped.
func Same(a, b api.Version) bool {
	return a.Writer == b.Writer && a.Tomb == b.Tomb && a.Value == b.Value
}
