package vacuum_test

import (
	"fmt"
	"math/rand"
	"slices"
	"testing"

	"ferryman/api"
	"ferryman/call"
	"ferryman/crab"
	"ferryman/ends"
	"ferryman/latch"
	"ferryman/put"
	"ferryman/turns"
	"ferryman/vacuum"
)

func config() api.Config {
	return api.Config{Tasks: 4, Active: 4, Keys: 9, Depth: 4, TS: 500, KeyLen: 2, ValLen: 3, Fan: 3}
}

func anchored(h api.Handle) latch.Name { return latch.Name{Kind: crab.Anchor, ID: uint64(h)} }

func same(a, b api.Answer) bool {
	return a.Err == b.Err && a.Found == b.Found && a.Value == b.Value && slices.Equal(a.Pairs, b.Pairs)
}

func machine(x api.Call, txs *call.Txs) ends.Machine {
	switch x.Kind {
	case api.Put, api.Delete:
		return put.New(x, txs)
	case api.Vacuum:
		return vacuum.New(x)
	}
	return ends.New(x, txs)
}

func newTurns(t *testing.T, c api.Config, home uint8) *turns.Turns {
	t.Helper()
	return turns.New(c, home, machine, func(what string) {
		t.Helper()
		t.Fatal(what)
	})
}

// some is some call of a task.
func some(d *turns.Turns, r *rand.Rand, k int) api.Call {
	n, active := d.Active(k)
	if r.Intn(8) == 0 {
		return api.Call{Kind: api.Vacuum}
	}
	if !active {
		return api.Call{Kind: api.Begin}
	}
	return api.Call{Kind: []uint8{3, 3, 3, 3, 4, 4, 6, 6, 7}[r.Intn(9)], Tx: n, Key: string(rune('a' + r.Intn(12))), Value: fmt.Sprint(r.Intn(100))}
}

// P25.2, P25.3, P25.5: whatever turns.
func TestAmongOthers(t *testing.T) {
	vacuums := 0
	for seed := range 150 {
		r := rand.New(rand.NewSource(int64(seed)))
		c := config()
		c.Keys, c.Depth = 3+r.Intn(8), 2+r.Intn(4)
		d := newTurns(t, c, uint8(1+seed%2))
		for range 2000 {
			if k := r.Intn(c.Tasks); !d.Under(k) {
				d.Invoke(k, some(d, r, k))
			} else {
				d.Step(k)
			}
			oneVacuum(t, d)
		}
		d.Finish()
		d.Check()
		for _, x := range d.Marks {
			if x.Call.Kind == api.Vacuum {
				vacuums++
			}
		}
	}
	if vacuums < 500 {
		t.Error("too few Vacuums:", vacuums)
	}
}

// oneVacuum tells whether of those that are under way one at most has its mark, or had the latch.
func oneVacuum(t *testing.T, d *turns.Turns) {
	t.Helper()
	marked := 0
	for k, x := range d.Tasks {
		if d.Under(k) && x.Call.Kind == api.Vacuum && x.Mark != nil {
			marked++
			if who, is := d.Shop.Latches.Owner(latch.Name{Kind: ends.Vacuums}); !is || who != k {
				t.Fatal("it has its mark, and not the latch")
			}
		}
	}
	if marked > 1 {
		t.Fatal("two Vacuums at once")
	}
}

// P25.4: behind a Vacuum from whose beginning on nothing else was under way, and no transaction active.
func TestSwept(t *testing.T) {
	for seed := range 60 {
		r := rand.New(rand.NewSource(int64(seed)))
		d := newTurns(t, config(), uint8(1+seed%2))
		for range 1000 {
			if k := r.Intn(4); !d.Under(k) {
				d.Invoke(k, some(d, r, k))
			} else {
				d.Step(k)
			}
		}
		d.Finish()
		for k, x := range d.Tasks {
			for n := 1; n <= x.Txs.Len(); n++ {
				if w, _ := x.Txs.Of(n); d.Shop.Table.State(w) == 1 {
					d.Do(k, api.Call{Kind: []uint8{api.Commit, api.Abort}[r.Intn(2)], Tx: n})
				}
			}
		}
		d.Do(0, api.Call{Kind: api.Vacuum})
		m := d.Check()
		for _, key := range m.Keys() {
			if l := d.Row(key); len(l) != 1 || l[0].Tomb {
				t.Fatalf("%q has %v", key, l)
			}
		}
		if d.Slots() != len(m.Keys()) || d.Shop.Table.Dead() != 0 {
			t.Fatal("slots:", d.Slots())
		}
	}
}

// writes has a task write a key, and commit, so often; then delete it.
func writes(d *turns.Turns, key string, times int, gone bool) {
	for k := range times {
		d.Do(0, api.Call{Kind: api.Begin})
		x := api.Call{Kind: api.Put, Tx: d.Tasks[0].Txs.Len(), Key: key, Value: fmt.Sprint(k)}
		if gone && k == times-1 {
			x.Kind = api.Delete
		}
		d.Do(0, x)
		d.Do(0, api.Call{Kind: api.Commit, Tx: x.Tx})
	}
}

// P25.1: in how many steps, by the words; in undo the segments go first.
func TestSteps(t *testing.T) {
	for _, home := range []uint8{1, 2} {
		d := newTurns(t, config(), home)
		check := func(what string, want int) {
			t.Helper()
			if a, n := d.Do(1, api.Call{Kind: api.Vacuum}); n != want || !same(a, api.Answer{}) {
				t.Errorf("home %d, %s: %d steps, not %d; %+v", home, what, n, want, a)
			}
			d.Check()
		}
		// at a key: its latch, the anchor, the versions (or one that names nothing, too), the table, the sweep; then to the next one
		key := func(reads, sweep int) int { return 1 + 1 + reads + 1 + sweep + 2 }
		undo := home == 2
		check("of nothing", 6)
		writes(d, "a", 1, false)
		check("one version", 6+key(1, 0))
		writes(d, "a", 1, false)
		if undo { // the records are given back ahead of the walk
			check("two versions", 6+1+key(2, 0))
		} else {
			check("two versions", 6+key(2, 2))
		}
		writes(d, "a", 3, false)
		if undo {
			check("four versions", 6+3+key(2, 0))
		} else {
			check("four versions", 6+key(4, 4))
		}
		d.Do(2, api.Call{Kind: api.Begin}) // an intent, and a version: the key is not to be taken out
		d.Do(2, api.Call{Kind: api.Put, Tx: d.Tasks[2].Txs.Len(), Key: "a"})
		check("an intent", 6+key(2, 0))
		d.Do(2, api.Call{Kind: api.Abort, Tx: d.Tasks[2].Txs.Len()})
		writes(d, "a", 1, true)
		out := 7 // the root word, the leaf, the latch, the anchor, the table, the leaf, the anchor
		if undo {
			check("a tomb", 6+1+key(2, 2)+out)
		} else {
			check("a tomb", 6+key(2, 3)+out)
		}
	}
}

// P25.1: what it holds by each step.
func TestHolds(t *testing.T) {
	d := newTurns(t, config(), 2)
	writes(d, "a", 2, true)
	h, _ := d.Shop.Tree.Find("a")
	v, w, n, at := latch.Name{Kind: ends.Vacuums}, latch.Name{Kind: crab.Word}, latch.Name{Kind: crab.Node, ID: 1}, anchored(h)
	d.Shop.Latches.Try(v, 9)
	d.Shop.Latches.Try(at, 9)
	d.Invoke(1, api.Call{Kind: api.Vacuum})
	for k, want := range [][]latch.Name{
		{}, {}, {}, {v}, {v}, // the head, two tries that fail, one that does not, the table
		{v},                                     // the record
		{w, v}, {n, v}, {n, v}, {n, v}, {at, v}, // to the key, two tries that fail
		{at, v}, {at, v}, {at, v}, {at, v}, // the anchor, the row, no record, the table
		{at, v}, {v}, // the anchor, the row's slot
		{w, v}, {n, v}, {n, at, v}, {n, at, v}, {n, at, v}, {n, at, v}, {v}, // it is taken out
		{w, v}, {v}, {}, // over
	} {
		if k == 3 {
			d.Shop.Latches.Drop(v, 9)
		}
		if k == 10 {
			d.Shop.Latches.Drop(at, 9)
		}
		done := d.Step(1)
		if got := d.Shop.Latches.Held(1); !slices.Equal(got, want) || done != (k == 26) {
			t.Errorf("the step %d: %v, not %v; done %v", k+1, got, want, done)
		}
		if (d.Tasks[1].Mark != nil) != (k >= 4) {
			t.Errorf("the mark, by the step %d", k+1)
		}
		if used := d.Shop.B.Used(); used != 2 && k < 5 || used != 1 && k >= 5 && k < 16 || used != 0 && k >= 16 {
			t.Errorf("%d slots by the step %d", used, k+1)
		}
	}
	d.Check()
}

// P25.1: records of writers up to the floor alone, the writers rising; a step that finds none any more does nothing.
func TestSegments(t *testing.T) {
	d := newTurns(t, config(), 2)
	writes(d, "a", 2, false)
	writes(d, "b", 2, false)
	d.Do(1, api.Call{Kind: api.Begin}) // it holds the horizon back
	writes(d, "a", 1, false)
	if l := d.Shop.B.Segments(); !slices.Equal(l, []int{2, 4, 6}) {
		t.Fatal(l)
	}
	d.Invoke(2, api.Call{Kind: api.Vacuum})
	for range 3 {
		d.Step(2)
	}
	for k, want := range [][]int{{4, 6}, {6}, {6}} {
		d.Step(2)
		if l := d.Shop.B.Segments(); !slices.Equal(l, want) {
			t.Errorf("the step %d: %v, not %v", k+4, l, want)
		}
	}
	for d.Under(2) {
		d.Step(2)
	}
	d.Check()
	d.Do(1, api.Call{Kind: api.Abort, Tx: 1})
	d.Invoke(2, api.Call{Kind: api.Vacuum})
	for range 3 {
		d.Step(2)
	}
	d.Shop.B.Pop(6) // somebody else gives it back
	d.Step(2)
	if held := d.Shop.Latches.Held(2); len(held) != 1 {
		t.Error("it does more than nothing:", held)
	}
	d.Step(2)
	if held := d.Shop.Latches.Held(2); len(held) != 2 {
		t.Error("then it walks:", held)
	}
	for d.Under(2) {
		d.Step(2)
	}
	d.Check()
}

// P25.1: of another Kind; of nil.
func TestNothing(t *testing.T) {
	d := newTurns(t, config(), 1)
	writes(d, "a", 2, false)
	was := fmt.Sprint(d.Shop.Table.Floor(), d.Shop.Latches.All(), d.Shop.A.Used(), d.Shop.Log.Events())
	for k := range 256 {
		if uint8(k) == api.Vacuum {
			continue
		}
		if v := vacuum.New(api.Call{Kind: uint8(k), Tx: 1, Engine: 1}); !v.Step(d.Shop, 0) || !same(v.Answer(), api.Answer{}) {
			t.Errorf("the Kind %d", k)
		}
	}
	var none *vacuum.Vacuum
	v := vacuum.New(api.Call{Kind: api.Vacuum, Tx: -1, Key: "too large"})
	if !none.Step(d.Shop, 0) || !same(none.Answer(), api.Answer{}) || !v.Step(nil, 0) || !same(v.Answer(), api.Answer{}) {
		t.Error("of nil")
	}
	if was != fmt.Sprint(d.Shop.Table.Floor(), d.Shop.Latches.All(), d.Shop.A.Used(), d.Shop.Log.Events()) {
		t.Error("something was done")
	}
	if v.Step(d.Shop, 0) {
		t.Error("behind a nil shop it goes on")
	}
	var _ ends.Machine = v
}

func TestExamples(t *testing.T) {
	d := newTurns(t, config(), 1)
	if _, n := d.Do(0, api.Call{Kind: api.Vacuum}); n != 6 {
		t.Error(n)
	}
	d = newTurns(t, config(), 1)
	writes(d, "k", 2, false)
	if _, n := d.Do(1, api.Call{Kind: api.Vacuum}); n != 15 {
		t.Error(n)
	}
}
