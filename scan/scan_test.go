package scan_test

import (
	"fmt"
	"math/rand"
	"slices"
	"strings"
	"testing"

	"ferryman/api"
	"ferryman/call"
	"ferryman/crab"
	"ferryman/ends"
	"ferryman/fork"
	"ferryman/latch"
	"ferryman/model"
	"ferryman/put"
	"ferryman/row"
	"ferryman/scan"
)

func config() api.Config {
	return api.Config{Tasks: 4, Active: 4, Keys: 20, Depth: 5, TS: 500, KeyLen: 2, ValLen: 3, Fan: 3}
}

func make1(t *testing.T, c api.Config, home uint8) *row.Shop {
	t.Helper()
	s, e := row.New(c, home)
	if e != api.OK {
		t.Fatal(e)
	}
	return s
}

func anchored(h api.Handle) latch.Name { return latch.Name{Kind: crab.Anchor, ID: uint64(h)} }

func same(a, b api.Answer) bool {
	return a.Err == b.Err && a.Found == b.Found && a.Value == b.Value && slices.Equal(a.Pairs, b.Pairs)
}

func machine(x api.Call, txs *call.Txs) ends.Machine {
	switch x.Kind {
	case api.Put, api.Delete:
		return put.New(x, txs)
	case api.Scan:
		return scan.New(x, txs)
	}
	return ends.New(x, txs)
}

// marked is a call, in the row of the marks.
type marked struct {
	task int
	x    api.Call
	a    api.Answer
}

// task is a task, and the call that is under way.
type task struct {
	txs  call.Txs
	m    ends.Machine
	x    api.Call
	mark *marked
}

// driver is tasks that go by turns.
type driver struct {
	t     *testing.T
	s     *row.Shop
	c     api.Config
	tasks []*task
	marks []*marked
}

func newDriver(t *testing.T, c api.Config, home uint8) *driver {
	d := &driver{t: t, s: make1(t, c, home), c: c}
	for range c.Tasks {
		d.tasks = append(d.tasks, &task{})
	}
	return d
}

func (d *driver) invoke(k int, x api.Call) {
	d.s.Log.Invoke(k)
	d.tasks[k].x, d.tasks[k].m, d.tasks[k].mark = x, machine(x, &d.tasks[k].txs), nil
}

// step has a task's machine do a step; whether it is done.
func (d *driver) step(k int) bool {
	d.t.Helper()
	x := d.tasks[k]
	done := x.m.Step(d.s, k)
	if _, is, _ := d.s.Log.Under(k); is && x.mark == nil {
		x.mark = &marked{task: k, x: x.x}
		d.marks = append(d.marks, x.mark)
	}
	if x.x.Kind == api.Scan {
		d.scanned(k, done)
	}
	if !done {
		return false
	}
	x.mark.a = x.m.Answer()
	if held := d.s.Latches.Held(k); len(held) != 0 {
		d.t.Fatalf("behind its end %+v holds %v", x.x, held)
	}
	d.s.Log.Return(k, x.mark.a)
	x.m = nil
	return true
}

// scanned holds what a Scan has, behind a step, against the words.
func (d *driver) scanned(k int, done bool) {
	d.t.Helper()
	x, held := d.tasks[k], d.s.Latches.Held(k)
	for _, n := range held {
		if n.Kind == crab.Anchor && len(held) > 1 {
			d.t.Fatal("a Scan holds more than an anchor:", held)
		}
	}
	if len(held) > 1 {
		d.t.Fatal("a Scan holds more than one node:", held)
	}
	if (x.mark != nil) != done {
		d.t.Fatalf("marked %v, done %v", x.mark != nil, done)
	}
	if a := x.m.Answer(); !done && !same(a, api.Answer{}) {
		d.t.Fatal("answered ahead of its end:", a)
	}
	if done && !x.m.Step(d.s, k) {
		d.t.Fatal("a step more")
	}
}

// do has a task do a call, alone; in how many steps.
func (d *driver) do(k int, x api.Call) (api.Answer, int) {
	d.t.Helper()
	d.invoke(k, x)
	for n := 1; n < 2000; n++ {
		if d.step(k) {
			return d.tasks[k].mark.a, n
		}
	}
	d.t.Fatalf("%+v does not end", x)
	return api.Answer{}, 0
}

func (d *driver) finish() {
	d.t.Helper()
	for round := 0; ; round++ {
		under := false
		for k, x := range d.tasks {
			if x.m != nil {
				under = true
				d.step(k)
			}
		}
		if !under {
			return
		}
		if round > 5000 {
			d.t.Fatal("they do not end")
		}
	}
}

// answers holds the answers against the model.
func (d *driver) answers() *model.Model {
	d.t.Helper()
	m, _ := model.New(d.c)
	for n, x := range d.marks {
		if want := m.Do(x.task, x.x); !same(x.a, want) {
			d.t.Fatalf("the %d-th mark: %d, %+v: %+v, the model %+v", n, x.task, x.x, x.a, want)
		}
	}
	return m
}

// vacuum makes the floor another one, as a Vacuum's mark does.
func (d *driver) vacuum() {
	d.s.Table.Vacuum()
	d.marks = append(d.marks, &marked{x: api.Call{Kind: api.Vacuum}})
}

// atOnce does something to a row at once, if nobody has its anchor: it is ferried, or swept.
func (d *driver) atOnce(r *rand.Rand, key string) {
	s := d.s
	var h api.Handle
	for _, id := range s.Tree.Nodes() {
		n, _ := s.Tree.Node(id)
		if at, is := fork.Place(n, key); is && n.Leaf {
			h = n.Rows[at]
		}
	}
	if h == 0 || !s.Latches.Try(anchored(h), 9) {
		return
	}
	defer s.Latches.Drop(anchored(h), 9)
	c := row.NewCollect(h)
	for !c.Step(s) {
	}
	found := c.Row()
	intents, keep := s.Table.Sort(found.Versions)
	p, _ := row.Sweep(found, intents+keep)
	if r.Intn(2) == 0 {
		p = row.Move(found, intents+keep, 3-found.Engine)
	}
	for !p.Step(s) {
	}
}

var letters = strings.Split("abcdefghijklmno", "")

func (d *driver) some(r *rand.Rand, k int) api.Call {
	n := d.tasks[k].txs.Len()
	w, _ := d.tasks[k].txs.Of(n)
	if d.s.Table.State(w) != 1 {
		return api.Call{Kind: api.Begin}
	}
	x := api.Call{Kind: []uint8{3, 3, 3, 3, 4, 5, 5, 5, 6, 6, 7}[r.Intn(11)], Tx: n, Key: letters[r.Intn(15)], Value: fmt.Sprint(r.Intn(100))}
	if x.Kind == api.Scan {
		x.Limit = []int{0, 1, 2, 3, 5, 128}[r.Intn(6)]
		if r.Intn(2) == 0 {
			x.End = letters[r.Intn(15)]
		}
		if r.Intn(2) == 0 {
			x.Key = ""
		}
	}
	return x
}

// P24.2, P24.4, P24.5: whatever goes on, ahead of, between, behind a Scan's steps.
func TestAmongOthers(t *testing.T) {
	pairs := 0
	for seed := range 80 {
		r := rand.New(rand.NewSource(int64(seed)))
		d := newDriver(t, config(), uint8(1+seed%2))
		var out *ends.Remove
		for range 2500 {
			if k := r.Intn(4); d.tasks[k].m == nil {
				d.invoke(k, d.some(r, k))
			} else {
				d.step(k)
			}
			switch r.Intn(20) {
			case 0, 1, 2:
				d.atOnce(r, letters[r.Intn(15)])
			case 3:
				if r.Intn(5) == 0 {
					d.vacuum()
				}
			}
			if out == nil {
				out = ends.NewRemove(letters[r.Intn(15)])
			} else if out.Step(d.s, 7) {
				out = nil
			}
		}
		for out != nil && !out.Step(d.s, 7) {
			for k, x := range d.tasks {
				if x.m != nil {
					d.step(k)
				}
			}
		}
		d.finish()
		d.answers()
		for _, x := range d.marks {
			pairs += len(x.a.Pairs)
		}
	}
	if pairs < 2000 {
		t.Error("too few pairs:", pairs)
	}
}

// P24.3: the beginning of what a greater Limit tells; two parts together.
func TestAsEachOther(t *testing.T) {
	for seed := range 40 {
		r := rand.New(rand.NewSource(int64(seed)))
		d := newDriver(t, config(), uint8(1+seed%2))
		d.do(0, api.Call{Kind: api.Begin})
		for range 20 {
			d.do(0, api.Call{Kind: []uint8{3, 3, 4}[r.Intn(3)], Tx: 1, Key: letters[r.Intn(15)], Value: "v"})
		}
		for range 20 {
			cut := []string{"", letters[r.Intn(15)], letters[r.Intn(15)], letters[r.Intn(15)]}
			slices.Sort(cut)
			from, mid, end := cut[r.Intn(2)], cut[2], cut[3]
			x := api.Call{Kind: api.Scan, Tx: 1, Key: from, End: end, Limit: 128}
			all, _ := d.do(0, x)
			x.Limit = r.Intn(8)
			if less, _ := d.do(0, x); !slices.Equal(less.Pairs, all.Pairs[:min(len(all.Pairs), x.Limit)]) {
				t.Fatalf("%+v: %v, of %v", x, less, all)
			}
			x.Limit = 128
			x.End = mid
			one, _ := d.do(0, x)
			x.Key, x.End = mid, end
			other, _ := d.do(0, x)
			if from < mid && mid < end && !slices.Equal(append(one.Pairs, other.Pairs...), all.Pairs) {
				t.Fatalf("%q, %q, %q: %v, %v, not %v", from, mid, end, one, other, all)
			}
		}
		d.answers()
	}
}

// P24.1: what is told at the first step; what is refused; of another Kind; of nil.
func TestNothing(t *testing.T) {
	d := newDriver(t, config(), 1)
	d.do(0, api.Call{Kind: api.Begin})
	d.do(0, api.Call{Kind: api.Put, Tx: 1, Key: "b"})
	d.do(0, api.Call{Kind: api.Begin})
	d.do(0, api.Call{Kind: api.Abort, Tx: 2})
	for _, x := range []struct {
		tx       int
		key, end string
		limit    int
		want     api.Errno
		steps    int
	}{
		{3, "abc", "", 5, api.NoTxn, 1}, {2, "abc", "", 5, api.Done, 1}, {1, "abc", "", 5, api.TooLarge, 1}, {1, "", "abc", 5, api.TooLarge, 1},
		{1, "", "", -1, api.TooLarge, 1}, {1, "", "", 129, api.TooLarge, 1},
		{1, "", "", 0, api.OK, 1}, {1, "a", "z", 0, api.OK, 1}, {1, "b", "b", 5, api.OK, 1}, {1, "c", "b", 5, api.OK, 1}, {1, "c", "bb", 128, api.OK, 1},
		{1, "c", "", 5, api.OK, 3}, {1, "", "b", 5, api.OK, 3}, {1, "", "a", 5, api.OK, 3},
	} {
		a, n := d.do(0, api.Call{Kind: api.Scan, Tx: x.tx, Key: x.key, End: x.end, Limit: x.limit, Value: "too large"})
		if !same(a, api.Answer{Err: x.want}) || n != x.steps {
			t.Errorf("%+v: %+v in %d steps", x, a, n)
		}
	}
	d.answers()
	was := fmt.Sprint(d.s.Table.Active(), d.s.Latches.All(), d.s.Log.Events())
	for k := range 256 {
		if uint8(k) == api.Scan {
			continue
		}
		if x := scan.New(api.Call{Kind: uint8(k), Tx: 1, Limit: 5}, &d.tasks[0].txs); !x.Step(d.s, 0) || !same(x.Answer(), api.Answer{}) {
			t.Errorf("the Kind %d", k)
		}
	}
	var none *scan.Scan
	x := scan.New(api.Call{Kind: api.Scan, Tx: 1, Limit: 5}, &d.tasks[0].txs)
	if !none.Step(d.s, 0) || !same(none.Answer(), api.Answer{}) || !x.Step(nil, 0) || !same(x.Answer(), api.Answer{}) {
		t.Error("of nil")
	}
	if was != fmt.Sprint(d.s.Table.Active(), d.s.Latches.All(), d.s.Log.Events()) {
		t.Error("something was done")
	}
	if x.Step(d.s, 0) {
		t.Error("behind a nil shop it goes on")
	}
	if x := scan.New(api.Call{Kind: api.Scan, Tx: 1}, nil); !x.Step(d.s, 0) || x.Answer().Err != api.NoTxn {
		t.Error("of no transactions:", x.Answer())
	}
	var _ ends.Machine = x
}

// R1: what is told shares no memory.
func TestApart(t *testing.T) {
	d := newDriver(t, config(), 2)
	d.do(0, api.Call{Kind: api.Begin})
	for _, key := range letters[:5] {
		d.do(0, api.Call{Kind: api.Put, Tx: 1, Key: key, Value: key})
	}
	x := scan.New(api.Call{Kind: api.Scan, Tx: 1, Limit: 128}, &d.tasks[0].txs)
	for !x.Step(d.s, 0) {
	}
	a := x.Answer()
	if len(a.Pairs) != 5 {
		t.Fatal(a)
	}
	a.Pairs[0].Key = "changed"
	if b := x.Answer(); b.Pairs[0] != (api.Pair{Key: "a", Value: "a"}) {
		t.Error("what was told is kept:", b)
	}
}

// P24.1, P24.5: what a Scan holds by each of its steps, also where it waits.
func TestHolds(t *testing.T) {
	d := newDriver(t, config(), 1)
	d.do(0, api.Call{Kind: api.Begin})
	for _, key := range []string{"a", "b"} {
		d.do(0, api.Call{Kind: api.Put, Tx: 1, Key: key, Value: key})
	}
	a, _ := d.s.Tree.Find("a")
	b, _ := d.s.Tree.Find("b")
	d.s.Latches.Try(anchored(b), 9)
	d.invoke(0, api.Call{Kind: api.Scan, Tx: 1, Limit: 5})
	w, n := latch.Name{Kind: crab.Word}, latch.Name{Kind: crab.Node, ID: 1}
	for k, want := range [][]latch.Name{{}, {w}, {n}, {anchored(a)}, {anchored(a)}, {}, {w}, {n}, {n}, {n}, {anchored(b)}, {anchored(b)}, {}, {w}, {}} {
		if k == 10 {
			d.s.Latches.Drop(anchored(b), 9)
		}
		if done := d.step(0); done != (k == 14) || !slices.Equal(d.s.Latches.Held(0), want) {
			t.Errorf("the step %d: %v, not %v; done %v", k+1, d.s.Latches.Held(0), want, done)
		}
	}
	d.answers()
}

func TestExamples(t *testing.T) {
	d := newDriver(t, config(), 1)
	d.do(0, api.Call{Kind: api.Begin})
	for _, key := range []string{"a", "b"} {
		d.do(0, api.Call{Kind: api.Put, Tx: 1, Key: key, Value: key})
	}
	d.do(0, api.Call{Kind: api.Commit, Tx: 1})
	d.do(0, api.Call{Kind: api.Begin})
	for _, key := range []string{"a", "b"} {
		h, _ := d.s.Tree.Find(key)
		_, top, _ := d.s.Anchor(h)
		d.s.A.Stamp(top, 1)
	}
	all := []api.Pair{{Key: "a", Value: "a"}, {Key: "b", Value: "b"}}
	for _, x := range []struct {
		limit, steps int
		want         []api.Pair
	}{{5, 13, all}, {1, 6, all[:1]}, {0, 1, nil}, {2, 11, all}} {
		if a, n := d.do(0, api.Call{Kind: api.Scan, Tx: 2, Limit: x.limit}); n != x.steps || !slices.Equal(a.Pairs, x.want) {
			t.Errorf("Limit %d: %d steps, %+v", x.limit, n, a)
		}
	}
}
