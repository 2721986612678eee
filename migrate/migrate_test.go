package migrate_test

import (
	"fmt"
	"math/rand"
	"slices"
	"testing"

	"ferryman/api"
	"ferryman/call"
	"ferryman/crab"
	"ferryman/ends"
	"ferryman/latch"
	"ferryman/migrate"
	"ferryman/put"
	"ferryman/turns"
	"ferryman/vacuum"
)

func config() api.Config {
	return api.Config{Tasks: 4, Active: 4, Keys: 9, Depth: 4, TS: 500, KeyLen: 2, ValLen: 3, Fan: 3}
}

func anchored(h api.Handle) latch.Name { return latch.Name{Kind: crab.Anchor, ID: uint64(h)} }

func same(a, b api.Answer) bool {
	return a.Err == b.Err && a.Found == b.Found && a.Value == b.Value && slices.Equal(a.Pairs, b.Pairs)
}

func machine(x api.Call, txs *call.Txs) ends.Machine {
	switch x.Kind {
	case api.Put, api.Delete:
		return put.New(x, txs)
	case api.Vacuum:
		return vacuum.New(x)
	case api.Migrate:
		return migrate.New(x, txs)
	}
	return ends.New(x, txs)
}

func newTurns(t *testing.T, c api.Config, home uint8) *turns.Turns {
	t.Helper()
	return turns.New(c, home, machine, func(what string) {
		t.Helper()
		t.Fatal(what)
	})
}

// some is some call of a task.
func some(d *turns.Turns, r *rand.Rand, k int) api.Call {
	n, active := d.Active(k)
	switch r.Intn(16) {
	case 0:
		return api.Call{Kind: api.Vacuum}
	case 1, 2:
		return api.Call{Kind: api.Migrate, Engine: uint8(1 + r.Intn(2))}
	}
	if !active {
		return api.Call{Kind: api.Begin}
	}
	return api.Call{Kind: []uint8{3, 3, 3, 3, 4, 4, 6, 6, 7}[r.Intn(9)], Tx: n, Key: string(rune('a' + r.Intn(12))), Value: fmt.Sprint(r.Intn(100))}
}

// under tells whether a call of a Kind is under way, and how many of these have their mark.
func under(d *turns.Turns, kind uint8) (calls, marks int) {
	for k, x := range d.Tasks {
		if d.Under(k) && x.Call.Kind == kind {
			calls++
			if x.Mark != nil {
				marks++
			}
		}
	}
	return calls, marks
}

// ferried tells whether all anchors are of an engine, and the other one has no slots.
func ferried(d *turns.Turns, engine uint8) bool {
	for _, id := range d.Shop.Tree.Nodes() {
		n, _ := d.Shop.Tree.Node(id)
		for _, h := range n.Rows {
			if e, _, _ := d.Shop.Anchor(h); e != engine {
				return false
			}
		}
	}
	if engine == api.Chains {
		return d.Shop.B.Used() == 0
	}
	return d.Shop.A.Used() == 0
}

// P26.2 to P26.4: whatever turns.
func TestAmongOthers(t *testing.T) {
	migrates, ended := 0, 0
	for seed := range 150 {
		r := rand.New(rand.NewSource(int64(seed)))
		c := config()
		c.Keys, c.Depth = 3+r.Intn(8), 2+r.Intn(4)
		d := newTurns(t, c, uint8(1+seed%2))
		for range 2000 {
			k := r.Intn(c.Tasks)
			x := d.Tasks[k]
			if !d.Under(k) {
				d.Invoke(k, some(d, r, k))
				continue
			}
			last, before := x.Mark, len(d.Marks)
			if !d.Step(k) || x.Call.Kind != api.Migrate {
				oneFerry(t, d)
				continue
			}
			migrates++
			if last == nil || before != len(d.Marks) {
				t.Fatal("its mark was the last step")
			}
			another := false
			at := slices.Index(d.Marks, x.Mark)
			for _, y := range d.Marks[at+1:] {
				another = another || y.Call.Kind == api.Migrate
			}
			vacuums, _ := under(d, api.Vacuum)
			if another {
				t.Fatal("another one had its mark ahead of its end")
			}
			if vacuums == 0 {
				ended++
				if !ferried(d, x.Call.Engine) || d.Shop.Table.Home() != x.Call.Engine {
					t.Fatalf("not all is ferried to %d: %d and %d slots", x.Call.Engine, d.Shop.A.Used(), d.Shop.B.Used())
				}
			}
		}
		d.Finish()
		d.Check()
	}
	if migrates < 500 || ended < 300 {
		t.Error("too few Migrates:", migrates, ended)
	}
}

// oneFerry tells whether of those that are under way one at most has its mark, and that one the latch.
func oneFerry(t *testing.T, d *turns.Turns) {
	t.Helper()
	if _, marks := under(d, api.Migrate); marks > 1 {
		t.Fatal("two Migrates at once")
	}
	for k, x := range d.Tasks {
		if !d.Under(k) || x.Call.Kind != api.Migrate || x.Mark == nil {
			continue
		}
		if who, is := d.Shop.Latches.Owner(latch.Name{Kind: ends.Ferry}); !is || who != k {
			t.Fatal("it has its mark, and not the latch")
		}
	}
}

// filled is tasks by which rows came to be, some with intents, also a falling one's.
func filled(t *testing.T, r *rand.Rand, home uint8) *turns.Turns {
	d := newTurns(t, config(), home)
	for range 60 {
		k := r.Intn(4)
		if x := some(d, r, k); x.Kind != api.Migrate {
			d.Do(k, x)
		}
	}
	for k, x := range d.Tasks {
		n := x.Txs.Len()
		if w, _ := x.Txs.Of(n); d.Shop.Table.State(w) == 1 && k == 3 { // it goes on being a falling one
			d.Do(k, api.Call{Kind: api.Put, Tx: n, Key: "z", Value: "z"})
			d.Shop.Table.Abort(w)
		}
	}
	return d
}

// rows tells of each key what stands in its row, and what of it is kept.
func rows(d *turns.Turns) (all, kept map[string]string) {
	all, kept = map[string]string{}, map[string]string{}
	for _, key := range d.Shop.Tree.Keys() {
		l := d.Row(key)
		for k := range l {
			l[k].TS = 0
		}
		intents, keep := d.Shop.Table.Sort(l)
		all[key], kept[key] = fmt.Sprint(l), fmt.Sprint(l[:intents+keep])
	}
	return all, kept
}

// P26.2, P26.5: alone: what is kept is the same; slots, in the midst.
func TestAlone(t *testing.T) {
	for seed := range 60 {
		r := rand.New(rand.NewSource(int64(seed)))
		home := uint8(1 + seed%2)
		d := filled(t, r, home)
		if r.Intn(2) == 0 {
			d.Shop.Table.Vacuum()
		}
		_, kept := rows(d)
		used, keys, anchors := d.Slots(), fmt.Sprint(d.Shop.Tree.Keys()), d.Shop.Anchors.Used()
		table := fmt.Sprint(d.Shop.Table.Keys(), d.Shop.Table.Dead(), d.Shop.Table.Clock(), d.Shop.Table.Floor())
		d.Invoke(0, api.Call{Kind: api.Migrate, Engine: 3 - home})
		most := 0
		if !turns.Till(func() bool { most = max(most, d.Slots()); return d.Step(0) }) || most > used+d.Shop.C.Depth+1 {
			t.Fatalf("%d slots, ahead of it %d; or it does not end", most, used)
		}
		all, now := rows(d)
		for key := range kept {
			if now[key] != kept[key] || all[key] != kept[key] {
				t.Fatalf("%q: %s, was %s", key, all[key], kept[key])
			}
		}
		if !ferried(d, 3-home) || fmt.Sprint(d.Shop.Tree.Keys()) != keys || d.Shop.Anchors.Used() != anchors || d.Shop.Table.Home() != 3-home {
			t.Fatal("not ferried:", d.Shop.A.Used(), d.Shop.B.Used())
		}
		if table != fmt.Sprint(d.Shop.Table.Keys(), d.Shop.Table.Dead(), d.Shop.Table.Clock(), d.Shop.Table.Floor()) {
			t.Fatal("it did something to the table")
		}
	}
}

// P26.1: in how many steps, by the words.
func TestSteps(t *testing.T) {
	for _, home := range []uint8{1, 2} {
		for versions := range 4 {
			d := newTurns(t, config(), home)
			for n := 1; n <= versions; n++ {
				d.Do(0, api.Call{Kind: api.Begin})
				d.Do(0, api.Call{Kind: api.Put, Tx: n, Key: "a", Value: fmt.Sprint(n)})
				d.Do(0, api.Call{Kind: api.Commit, Tx: n})
			}
			if versions == 0 { // a row of nothing
				h, _ := d.Shop.Make(home, 0)
				d.Shop.Tree.Insert("a", h)
			}
			made := versions // of chains; of undo the row's slot, then a record and the row for each
			if home == 1 && versions > 0 {
				made = 1 + 2*(versions-1)
			}
			want := 3 + 3 + 1 + 1 + versions + 1 + made + 1 + versions + 2 + 1
			if _, n := d.Do(1, api.Call{Kind: api.Migrate, Engine: 3 - home}); n != want {
				t.Errorf("home %d, %d versions: %d steps, not %d", home, versions, n, want)
			}
			if _, n := d.Do(1, api.Call{Kind: api.Migrate, Engine: 3 - home}); n != 10 {
				t.Errorf("home %d, once more: %d steps", home, n)
			}
			if versions > 0 {
				d.Check()
			}
			if !ferried(d, 3-home) {
				t.Error("not ferried")
			}
		}
	}
}

// P26.1: what it holds by each step.
func TestHolds(t *testing.T) {
	d := newTurns(t, config(), 1)
	d.Do(0, api.Call{Kind: api.Begin})
	d.Do(0, api.Call{Kind: api.Put, Tx: 1, Key: "a"})
	h, _ := d.Shop.Tree.Find("a")
	f, w, n, at := latch.Name{Kind: ends.Ferry}, latch.Name{Kind: crab.Word}, latch.Name{Kind: crab.Node, ID: 1}, anchored(h)
	d.Shop.Latches.Try(f, 9)
	d.Shop.Latches.Try(at, 9)
	d.Invoke(1, api.Call{Kind: api.Migrate, Engine: 2})
	for k, want := range [][]latch.Name{
		{}, {}, {}, {f}, {f}, // the head, two tries that fail, one that does not, the table
		{w, f}, {n, f}, {n, f}, {n, f}, {at, f}, // to the key, two tries that fail
		{at, f}, {at, f}, {at, f}, {at, f}, {at, f}, {at, f}, {f}, // the anchor; the anchor, the version; the table; a slot, the anchor, the old slot
		{w, f}, {f}, {}, // over
	} {
		if k == 3 {
			d.Shop.Latches.Drop(f, 9)
		}
		if k == 9 {
			d.Shop.Latches.Drop(at, 9)
		}
		done := d.Step(1)
		if got := d.Shop.Latches.Held(1); !slices.Equal(got, want) || done != (k == 19) {
			t.Errorf("the step %d: %v, not %v; done %v", k+1, got, want, done)
		}
		home := uint8(1)
		if k >= 4 {
			home = 2
		}
		if (d.Tasks[1].Mark != nil) != (k >= 4) || d.Shop.Table.Home() != home {
			t.Errorf("the mark, by the step %d; the home %d", k+1, d.Shop.Table.Home())
		}
	}
	d.Check()
}

// P26.3: a Put that judged its new key ahead of the mark, and puts it in behind it, in the old engine: the walk comes by, as the leaf was held.
func TestJudgedAhead(t *testing.T) {
	for _, home := range []uint8{1, 2} {
		d := newTurns(t, config(), home)
		d.Do(0, api.Call{Kind: api.Begin})
		d.Do(0, api.Call{Kind: api.Put, Tx: 1, Key: "a", Value: "1"})
		d.Invoke(0, api.Call{Kind: api.Put, Tx: 1, Key: "k", Value: "2"})
		for d.Tasks[0].Mark == nil {
			d.Step(0)
		}
		d.Invoke(1, api.Call{Kind: api.Migrate, Engine: 3 - home})
		for range 30 {
			d.Step(1)
		}
		if d.Tasks[1].Mark == nil || !d.Under(1) {
			t.Fatal("it is not under way behind its mark")
		}
		for d.Under(0) {
			d.Step(0)
			d.Step(1)
		}
		for d.Under(1) {
			d.Step(1)
		}
		if !ferried(d, 3-home) {
			t.Errorf("home %d: %d, %d slots", home, d.Shop.A.Used(), d.Shop.B.Used())
		}
		d.Check()
	}
}

// P26.1: what is refused; of another Kind; of nil.
func TestNothing(t *testing.T) {
	d := newTurns(t, config(), 1)
	for _, engine := range []uint8{0, 3, 255} {
		if a, n := d.Do(0, api.Call{Kind: api.Migrate, Engine: engine}); !same(a, api.Answer{Err: api.ErrArg}) || n != 1 || d.Shop.Table.Home() != 1 {
			t.Error(engine, a, n)
		}
	}
	was := fmt.Sprint(d.Shop.Table.Home(), d.Shop.Latches.All(), d.Shop.Log.Events())
	for k := range 256 {
		if uint8(k) == api.Migrate {
			continue
		}
		if m := migrate.New(api.Call{Kind: uint8(k), Tx: 1, Engine: 2}, nil); !m.Step(d.Shop, 0) || !same(m.Answer(), api.Answer{}) {
			t.Errorf("the Kind %d", k)
		}
	}
	var none *migrate.Migrate
	m := migrate.New(api.Call{Kind: api.Migrate, Engine: 2}, nil)
	if !none.Step(d.Shop, 0) || !same(none.Answer(), api.Answer{}) || !m.Step(nil, 0) || !same(m.Answer(), api.Answer{}) {
		t.Error("of nil")
	}
	if was != fmt.Sprint(d.Shop.Table.Home(), d.Shop.Latches.All(), d.Shop.Log.Events()) {
		t.Error("something was done")
	}
	if m.Step(d.Shop, 0) {
		t.Error("behind a nil shop it goes on")
	}
	var _ ends.Machine = m
}

func TestExamples(t *testing.T) {
	d := newTurns(t, config(), 1)
	if _, n := d.Do(0, api.Call{Kind: api.Migrate, Engine: 2}); n != 6 {
		t.Error(n)
	}
	d = newTurns(t, config(), 1)
	d.Do(0, api.Call{Kind: api.Begin})
	d.Do(0, api.Call{Kind: api.Put, Tx: 1, Key: "a"})
	for _, want := range []int{16, 10} {
		if _, n := d.Do(1, api.Call{Kind: api.Migrate, Engine: 2}); n != want {
			t.Error(n, want)
		}
	}
}
