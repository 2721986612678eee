package put_test

import (
	"fmt"
	"math/rand"
	"slices"
	"strings"
	"testing"

	"ferryman/api"
	"ferryman/call"
	"ferryman/crab"
	"ferryman/ends"
	"ferryman/latch"
	"ferryman/model"
	"ferryman/put"
	"ferryman/row"
)

func config() api.Config {
	return api.Config{Tasks: 4, Active: 4, Keys: 9, Depth: 4, TS: 60, KeyLen: 2, ValLen: 3, Fan: 3}
}

func make1(t *testing.T, c api.Config, home uint8) *row.Shop {
	t.Helper()
	s, e := row.New(c, home)
	if e != api.OK {
		t.Fatal(e)
	}
	return s
}

func anchored(h api.Handle) latch.Name { return latch.Name{Kind: crab.Anchor, ID: uint64(h)} }
func node(id int) latch.Name           { return latch.Name{Kind: crab.Node, ID: uint64(id)} }
func word() latch.Name                 { return latch.Name{Kind: crab.Word} }

func same(a, b api.Answer) bool {
	return a.Err == b.Err && a.Found == b.Found && a.Value == b.Value && slices.Equal(a.Pairs, b.Pairs)
}

// machine makes the machine of a call.
func machine(x api.Call, txs *call.Txs) ends.Machine {
	if x.Kind == api.Put || x.Kind == api.Delete {
		return put.New(x, txs)
	}
	return ends.New(x, txs)
}

// marked is a call, in the row of the marks.
type marked struct {
	task int
	x    api.Call
	a    api.Answer
}

// task is a task, and the call that is under way.
type task struct {
	txs  call.Txs
	m    ends.Machine
	x    api.Call
	mark *marked
}

// driver is tasks that go by turns.
type driver struct {
	t     *testing.T
	s     *row.Shop
	c     api.Config
	tasks []*task
	marks []*marked
}

func newDriver(t *testing.T, c api.Config, home uint8) *driver {
	d := &driver{t: t, s: make1(t, c, home), c: c}
	for range c.Tasks {
		d.tasks = append(d.tasks, &task{})
	}
	return d
}

// invoke begins a task's call.
func (d *driver) invoke(k int, x api.Call) {
	d.s.Log.Invoke(k)
	d.tasks[k].x, d.tasks[k].m, d.tasks[k].mark = x, machine(x, &d.tasks[k].txs), nil
}

// step has a task's machine do a step; whether it is done.
func (d *driver) step(k int) bool {
	d.t.Helper()
	x := d.tasks[k]
	done := x.m.Step(d.s, k)
	if _, is, _ := d.s.Log.Under(k); is && x.mark == nil {
		x.mark = &marked{task: k, x: x.x}
		d.marks = append(d.marks, x.mark)
	}
	if !done {
		return false
	}
	if x.mark == nil {
		d.t.Fatalf("%+v made no mark", x.x)
	}
	x.mark.a = x.m.Answer()
	if held := d.s.Latches.Held(k); len(held) != 0 {
		d.t.Fatalf("behind its end %+v holds %v", x.x, held)
	}
	if !x.m.Step(d.s, k) || !same(x.m.Answer(), x.mark.a) {
		d.t.Fatal("a step more does something")
	}
	d.s.Log.Return(k, x.mark.a)
	x.m = nil
	return true
}

// do has a task do a call, alone; in how many steps.
func (d *driver) do(k int, x api.Call) (api.Answer, int) {
	d.t.Helper()
	d.invoke(k, x)
	for n := 1; n < 400; n++ {
		if d.step(k) {
			return d.tasks[k].mark.a, n
		}
	}
	d.t.Fatalf("%+v does not end", x)
	return api.Answer{}, 0
}

// finish gives all tasks turns, till none has a call under way.
func (d *driver) finish() {
	d.t.Helper()
	for round := 0; ; round++ {
		under := false
		for k, x := range d.tasks {
			if x.m != nil {
				under = true
				d.step(k)
			}
		}
		if !under {
			return
		}
		if round > 3000 {
			d.t.Fatal("they do not end")
		}
	}
}

// check holds the answers against the model, and the rows.
func (d *driver) check() *model.Model {
	d.t.Helper()
	m, _ := model.New(d.c)
	for n, x := range d.marks {
		if want := m.Do(x.task, x.x); !same(x.a, want) {
			d.t.Fatalf("the %d-th mark: %d, %+v: %+v, the model %+v", n, x.task, x.x, x.a, want)
		}
	}
	keys := m.Keys()
	if !d.s.Tree.Legal() || !slices.Equal(d.s.Tree.Keys(), keys) || d.s.Anchors.Used() != len(keys) {
		d.t.Fatalf("the directory: %q, not %q; %d anchors", d.s.Tree.Keys(), keys, d.s.Anchors.Used())
	}
	for _, key := range keys {
		var want []api.Version
		if v, is := m.Intent(key); is {
			want = append(want, v)
		}
		want = append(want, m.Versions(key)...)
		if got := d.row(key); !slices.EqualFunc(got, want, func(a, b api.Version) bool { return a.Writer == b.Writer && a.Tomb == b.Tomb && a.Value == b.Value }) {
			d.t.Fatalf("%q has %v, not %v", key, got, want)
		}
	}
	if n := d.s.A.Used() + d.s.B.Used(); n != m.Retained() || d.s.Latches.All() != 0 {
		d.t.Fatalf("%d slots, not %d", n, m.Retained())
	}
	return m
}

// row tells what stands in a key's row.
func (d *driver) row(key string) []api.Version {
	h, _ := d.s.Tree.Find(key)
	_, top, _ := d.s.Anchor(h)
	return append(d.s.A.List(top), d.s.B.List(top)...)
}

// some is some call of a task.
func (d *driver) some(r *rand.Rand, k int) api.Call {
	n := d.tasks[k].txs.Len()
	w, _ := d.tasks[k].txs.Of(n)
	if r.Intn(40) == 0 {
		n += r.Intn(3) - 1
	} else if d.s.Table.State(w) != 1 {
		return api.Call{Kind: api.Begin}
	}
	x := api.Call{Kind: []uint8{3, 3, 3, 3, 3, 4, 4, 6, 7}[r.Intn(9)], Tx: n, Key: string(rune('a' + r.Intn(12))), Value: fmt.Sprint(r.Intn(100))}
	if r.Intn(50) == 0 {
		x.Key, x.Value = strings.Repeat("k", r.Intn(4)), strings.Repeat("v", r.Intn(5))
	}
	return x
}

// P23.2 to P23.4: whatever turns.
func TestAmongOthers(t *testing.T) {
	answered := map[api.Errno]int{}
	for seed := range 120 {
		r := rand.New(rand.NewSource(int64(seed)))
		c := config()
		c.Keys, c.Depth, c.TS = 3+r.Intn(8), 2+r.Intn(4), 5+r.Intn(50)
		d := newDriver(t, c, uint8(1+seed%2))
		for range 1500 {
			if k := r.Intn(c.Tasks); d.tasks[k].m == nil {
				d.invoke(k, d.some(r, k))
			} else {
				d.step(k)
			}
		}
		d.finish()
		d.check()
		for _, x := range d.marks {
			answered[x.a.Err]++
		}
	}
	for _, e := range []api.Errno{api.OK, api.NoTxn, api.Done, api.TooLarge, api.Conflict, api.Full, api.Exhausted} {
		if answered[e] < 10 {
			t.Errorf("%v was answered %d times", e, answered[e])
		}
	}
}

// P23.4: two at once on one key, each pair of turns.
func TestTwoAtOnce(t *testing.T) {
	for seed := range 300 {
		r := rand.New(rand.NewSource(int64(seed)))
		d := newDriver(t, config(), uint8(1+seed%2))
		if seed%3 > 0 {
			d.do(2, api.Call{Kind: api.Begin})
			d.do(2, api.Call{Kind: api.Put, Tx: 1, Key: "k", Value: "0"})
			d.do(2, api.Call{Kind: []uint8{api.Commit, api.Abort}[seed%2], Tx: 1})
		}
		ended := []int{}
		for k := range 2 {
			d.do(k, api.Call{Kind: api.Begin})
		}
		for k := range 2 {
			d.invoke(k, api.Call{Kind: []uint8{api.Put, api.Put, api.Delete}[r.Intn(3)], Tx: 1, Key: "k", Value: fmt.Sprint(k)})
		}
		for n := 0; len(ended) < 2; n++ {
			if k := r.Intn(2); d.tasks[k].m != nil && d.step(k) {
				ended = append(ended, k)
			}
			if n > 500 {
				t.Fatal("they do not end")
			}
		}
		if l := d.marks[len(d.marks)-2:]; l[0].task != ended[0] && l[0].a.Err == api.OK && l[1].a.Err == api.Conflict {
			h, _ := d.s.Tree.Find("k")
			t.Fatal("not one behind the other:", ended, h)
		}
		d.check()
	}
}

// P23.5: with the other home the same acts are answered the same.
func TestEitherEngine(t *testing.T) {
	for seed := range 60 {
		r := rand.New(rand.NewSource(int64(seed)))
		one, other := newDriver(t, config(), 1), newDriver(t, config(), 2)
		for range 120 {
			k := r.Intn(4)
			x := one.some(r, k)
			a, _ := one.do(k, x)
			if b, _ := other.do(k, x); !same(a, b) {
				t.Fatalf("%+v: %+v, %+v", x, a, b)
			}
		}
		one.check()
		other.check()
	}
}

// P23.1: a row that a falling one's intent stands on, and what the floor leaves.
func TestOffAndSweep(t *testing.T) {
	for _, home := range []uint8{1, 2} {
		d := newDriver(t, config(), home)
		begin, commit := api.Call{Kind: api.Begin}, func(n int) api.Call { return api.Call{Kind: api.Commit, Tx: n} }
		put := func(n int, v string) api.Call { return api.Call{Kind: api.Put, Tx: n, Key: "k", Value: v} }
		for n := 1; n <= 3; n++ {
			d.do(0, begin)
			d.do(0, put(n, fmt.Sprint(n)))
			d.do(0, commit(n))
		}
		d.do(1, begin)
		d.do(1, put(1, "x"))
		d.do(0, begin)
		d.invoke(1, api.Call{Kind: api.Abort, Tx: 1})
		d.step(1)
		d.step(1)
		d.s.Table.Vacuum()
		a, n := d.do(0, put(4, "4"))
		// the head, 3 to find it, the anchor and 4 versions, the table; 2 for the Off, 3 for the Sweep, 2 for the Put
		if want := 1 + 3 + 5 + 1 + 2 + 3 + 2; a.Err != api.OK || n != want {
			t.Errorf("home %d: %+v in %d steps, not %d", home, a, n, want)
		}
		l := d.row("k")
		if len(l) != 2 || l[0].Value != "4" || l[1].Value != "3" || d.s.A.Used()+d.s.B.Used() != 2 {
			t.Errorf("home %d: %v", home, l)
		}
		d.finish()
		if l := d.row("k"); len(l) != 2 || l[0].Value != "4" {
			t.Errorf("home %d: %v", home, l)
		}
	}
}

// P23.1: the engine of a new key is the home that was told by the judging.
func TestHome(t *testing.T) {
	for _, home := range []uint8{1, 2} {
		for moved := range 6 {
			d := newDriver(t, config(), home)
			d.do(0, api.Call{Kind: api.Begin})
			d.invoke(0, api.Call{Kind: api.Put, Tx: 1, Key: "k", Value: "v"})
			for n := 0; d.tasks[0].m != nil; n++ {
				if n == moved {
					d.s.Table.Move(3 - home)
				}
				d.step(0)
			}
			want := home
			if moved <= 3 {
				want = 3 - home
			}
			h, _ := d.s.Tree.Find("k")
			if engine, _, _ := d.s.Anchor(h); engine != want {
				t.Errorf("home %d, moved ahead of the step %d: engine %d", home, moved+1, engine)
			}
			d.check()
		}
	}
}

// P23.1: what a Put of a new key holds and does by each step; also where the leaf is split.
func TestNewKey(t *testing.T) {
	for _, home := range []uint8{1, 2} {
		d := newDriver(t, config(), home)
		d.do(0, api.Call{Kind: api.Begin})
		for _, key := range []string{"a", "b", "c"} {
			if a, n := d.do(0, api.Call{Kind: api.Put, Tx: 1, Key: key}); a.Err != api.OK || n != 8 {
				t.Error(a, n)
			}
		}
		d.invoke(0, api.Call{Kind: api.Put, Tx: 1, Key: "d"})
		var at latch.Name // the new anchor's
		for k, want := range []int{0, 1, 2, 2, 3, 3, 1, 1, 0} {
			done := d.step(0)
			held := d.s.Latches.Held(0)
			if k == 4 { // the root word, the leaf, and that
				at = held[len(held)-1]
			}
			new := slices.Contains(held, at) && at.Kind == crab.Anchor
			old := slices.Contains(held, word()) && slices.Contains(held, node(1))
			if len(held) != want || new != (k >= 4 && k < 8) || old != (k >= 2 && k < 6) || done != (k == 8) {
				t.Errorf("home %d, the step %d: holds %v; done %v", home, k+1, held, done)
			}
			mark := d.tasks[0].mark != nil
			keys, anchors, slots := d.s.Table.Keys(), d.s.Anchors.Used(), d.s.A.Used()+d.s.B.Used()
			wantKeys, wantAnchors, wantSlots := 3, 3, 3
			if k >= 3 {
				wantKeys = 4
			}
			if k >= 4 {
				wantAnchors = 4
			}
			if k >= 7 {
				wantSlots = 4
			}
			if mark != (k >= 3) || keys != wantKeys || anchors != wantAnchors || slots != wantSlots {
				t.Errorf("home %d, the step %d: mark %v, %d keys, %d anchors, %d slots", home, k+1, mark, keys, anchors, slots)
			}
			if _, top, _ := d.s.Anchor(api.Handle(at.ID)); (top != 0) != (k >= 8) {
				t.Errorf("home %d, the step %d: the anchor's row %d", home, k+1, top)
			}
		}
		d.check()
	}
}

// P23.1: what a Put, and a Delete, of a key that is there holds by each step, also where it waits.
func TestKeyThere(t *testing.T) {
	for _, kind := range []uint8{api.Put, api.Delete} {
		for _, home := range []uint8{1, 2} {
			d := newDriver(t, config(), home)
			d.do(0, api.Call{Kind: api.Begin})
			d.do(0, api.Call{Kind: api.Put, Tx: 1, Key: "k"})
			h, _ := d.s.Tree.Find("k")
			d.s.Latches.Try(anchored(h), 9)
			d.invoke(0, api.Call{Kind: kind, Tx: 1, Key: "k", Value: "v"})
			n, at := node(1), anchored(h)
			for k, want := range [][]latch.Name{{}, {word()}, {n}, {n}, {n}, {at}, {at}, {at}, {at}, {}} {
				if k == 5 {
					d.s.Latches.Drop(at, 9)
				}
				if done := d.step(0); done != (k == 9) || !slices.Equal(d.s.Latches.Held(0), want) {
					t.Errorf("the Kind %d, home %d, the step %d: %v, not %v; done %v", kind, home, k+1, d.s.Latches.Held(0), want, done)
				}
				if (d.tasks[0].mark != nil) != (k >= 8) {
					t.Errorf("the mark, by the step %d", k+1)
				}
			}
			if a := d.tasks[0].mark.a; a.Err != api.OK || a.Found != (kind == api.Delete) {
				t.Error(a)
			}
			d.check()
		}
	}
}

// P23.1: a Delete of what is not there, or not found; what is refused; of another Kind; of nil.
func TestNothing(t *testing.T) {
	d := newDriver(t, config(), 1)
	d.do(0, api.Call{Kind: api.Begin})
	d.do(0, api.Call{Kind: api.Begin})
	d.do(0, api.Call{Kind: api.Abort, Tx: 2})
	if a, n := d.do(0, api.Call{Kind: api.Delete, Tx: 1, Key: "k"}); !same(a, api.Answer{}) || n != 4 || d.s.Table.Keys() != 0 {
		t.Error("of what is not there:", a, n)
	}
	d.do(0, api.Call{Kind: api.Put, Tx: 1, Key: "k"})
	if a, _ := d.do(0, api.Call{Kind: api.Delete, Tx: 1, Key: "k"}); !same(a, api.Answer{Found: true}) {
		t.Error(a)
	}
	if a, n := d.do(0, api.Call{Kind: api.Delete, Tx: 1, Key: "k"}); !same(a, api.Answer{}) || n != 7 {
		t.Error("of what is not found:", a, n)
	}
	long := strings.Repeat("x", 4)
	for _, x := range []struct {
		c    api.Call
		want api.Errno
	}{
		{api.Call{Kind: api.Put, Tx: 3, Key: long}, api.NoTxn}, {api.Call{Kind: api.Delete, Tx: 2, Key: long}, api.Done},
		{api.Call{Kind: api.Put, Tx: 1, Key: ""}, api.TooLarge}, {api.Call{Kind: api.Put, Tx: 1, Key: "k", Value: long}, api.TooLarge},
		{api.Call{Kind: api.Delete, Tx: 1, Key: long}, api.TooLarge},
	} {
		if a, n := d.do(0, x.c); !same(a, api.Answer{Err: x.want}) || n != 1 {
			t.Errorf("%+v: %+v in %d steps", x.c, a, n)
		}
	}
	d.check()
	was := fmt.Sprint(d.s.Table.Keys(), d.s.Latches.All(), d.s.A.Used(), d.s.Log.Events())
	for k := range 256 {
		kind := uint8(k)
		if kind == api.Put || kind == api.Delete {
			continue
		}
		if p := put.New(api.Call{Kind: kind, Tx: 1, Key: "k"}, &d.tasks[0].txs); !p.Step(d.s, 0) || !same(p.Answer(), api.Answer{}) {
			t.Errorf("the Kind %d", k)
		}
	}
	var none *put.Put
	p := put.New(api.Call{Kind: api.Put, Tx: 1, Key: "k"}, &d.tasks[0].txs)
	if !none.Step(d.s, 0) || !same(none.Answer(), api.Answer{}) || !p.Step(nil, 0) || !same(p.Answer(), api.Answer{}) {
		t.Error("of nil")
	}
	if was != fmt.Sprint(d.s.Table.Keys(), d.s.Latches.All(), d.s.A.Used(), d.s.Log.Events()) {
		t.Error("something was done")
	}
	if p.Step(d.s, 0) || !same(p.Answer(), api.Answer{}) {
		t.Error("behind a nil shop it goes on; it is answered ahead of its end")
	}
	if p := put.New(api.Call{Kind: api.Put, Tx: 1, Key: "k"}, nil); !p.Step(d.s, 0) || p.Answer().Err != api.NoTxn {
		t.Error("of no transactions:", p.Answer())
	}
}

// P23.1: Full, by the keys, and by a key's versions; the leaf, or the anchor, is let go of.
func TestFull(t *testing.T) {
	for _, home := range []uint8{1, 2} {
		c := config()
		c.Keys, c.Depth = 1, 2
		d := newDriver(t, c, home)
		for n := 1; n <= 2; n++ {
			d.do(0, api.Call{Kind: api.Begin})
			d.do(0, api.Call{Kind: api.Put, Tx: n, Key: "k"})
			d.do(0, api.Call{Kind: api.Commit, Tx: n})
		}
		d.do(0, api.Call{Kind: api.Begin})
		if a, n := d.do(0, api.Call{Kind: api.Put, Tx: 3, Key: "m"}); !same(a, api.Answer{Err: api.Full}) || n != 4 {
			t.Error(a, n)
		}
		if a, n := d.do(0, api.Call{Kind: api.Put, Tx: 3, Key: "k"}); !same(a, api.Answer{Err: api.Full}) || n != 8 {
			t.Error(a, n)
		}
		if a, _ := d.do(0, api.Call{Kind: api.Delete, Tx: 3, Key: "k"}); !same(a, api.Answer{Err: api.Full}) {
			t.Error(a)
		}
		d.check()
	}
}

func TestExamples(t *testing.T) {
	d := newDriver(t, config(), 1)
	d.do(0, api.Call{Kind: api.Begin})
	d.do(1, api.Call{Kind: api.Begin})
	x := api.Call{Kind: api.Put, Tx: 1, Key: "k", Value: "1"}
	for k, want := range []int{8, 8} {
		if a, n := d.do(0, x); a.Err != api.OK || n != want {
			t.Error(k, a, n)
		}
	}
	if a, n := d.do(1, x); a.Err != api.Conflict || n != 7 {
		t.Error(a, n)
	}
}
