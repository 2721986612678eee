package get_test

import (
	"fmt"
	"math/rand"
	"slices"
	"strings"
	"testing"

	"ferryman/api"
	"ferryman/call"
	"ferryman/crab"
	"ferryman/ends"
	"ferryman/get"
	"ferryman/latch"
	"ferryman/model"
	"ferryman/put"
	"ferryman/row"
	"ferryman/turns"
)

func config() api.Config {
	return api.Config{Tasks: 4, Active: 4, Keys: 20, Depth: 6, TS: 500, KeyLen: 3, ValLen: 6, Fan: 3}
}

// machine makes the machine of a call.
func machine(x api.Call, txs *call.Txs) ends.Machine {
	switch x.Kind {
	case api.Get:
		return get.New(x, txs)
	case api.Put, api.Delete:
		return put.New(x, txs)
	}
	return ends.New(x, txs)
}

// newTurns is tasks whose Gets make one mark, by their last step, and are answered then.
func newTurns(t *testing.T, home uint8) *turns.Turns {
	t.Helper()
	d := turns.New(config(), home, machine, func(what string) {
		t.Helper()
		t.Fatal(what)
	})
	d.Behind = func(k int, done bool) {
		x := d.Tasks[k]
		if x.Call.Kind != api.Get {
			return
		}
		if (x.Mark != nil) != done {
			t.Fatalf("marked %v, done %v", x.Mark != nil, done)
		}
		if !done && !model.Same(x.Machine.Answer(), api.Answer{}) {
			t.Fatal("answered ahead of its end:", x.Machine.Answer())
		}
	}
	return d
}

// popped gives back a record of a writer up to the floor.
func popped(s *row.Shop, r *rand.Rand) {
	for _, w := range s.B.Segments() {
		if ts, is := s.Table.TS(w); is && ts <= s.Table.Floor() && r.Intn(2) == 0 {
			s.B.Pop(w)
			return
		}
	}
}

// some is some call of a task; a Get is told once more now and then, with nothing between.
func some(d *turns.Turns, r *rand.Rand, k int) api.Call {
	n, active := d.Active(k)
	if !active {
		return api.Call{Kind: api.Begin}
	}
	if last := d.Tasks[k].Call; last.Kind == api.Get && r.Intn(2) == 0 {
		return last
	}
	x := api.Call{Kind: []uint8{2, 2, 2, 2, 3, 3, 3, 4, 6, 6, 7}[r.Intn(11)], Tx: n, Key: turns.Key(r.Intn), Value: fmt.Sprint(r.Intn(10000))}
	if x.Kind == api.Get && r.Intn(20) == 0 {
		x.Tx, x.Key = n-r.Intn(3)+1, strings.Repeat("k", r.Intn(6))
	}
	return x
}

// P22.2 to P22.5: whatever goes on, ahead of, between, behind a Get's steps.
func TestAmongOthers(t *testing.T) {
	gets, found, again := 0, 0, 0
	for seed := range 80 {
		r := rand.New(rand.NewSource(int64(seed)))
		d := newTurns(t, uint8(1+seed%2))
		out := ends.NewRemove("a")
		for range 2500 {
			if k := r.Intn(4); d.Under(k) {
				d.Step(k)
			} else {
				d.Invoke(k, some(d, r, k))
			}
			switch r.Intn(12) {
			case 0, 1:
				d.AtOnce(turns.Key(r.Intn), r.Intn(2) == 0)
			case 2:
				if r.Intn(4) == 0 {
					d.Vacuum()
				}
			case 3:
				popped(d.Shop, r)
			}
			if out.Step(d.Shop, 9) {
				out = ends.NewRemove(turns.Key(r.Intn))
			}
		}
		if !turns.Till(func() bool { d.Round(); return out.Step(d.Shop, 9) }) {
			t.Fatal("it does not end")
		}
		d.Finish()
		d.Answers()
		last := map[int]*turns.Marked{}
		for _, x := range d.Marks {
			if was := last[x.Task]; was != nil && was.Call == x.Call && x.Call.Kind == api.Get {
				if again++; !model.Same(x.Answer, was.Answer) {
					t.Fatalf("%+v: %+v, then %+v", x.Call, was.Answer, x.Answer)
				}
			}
			if x.Call.Kind == api.Get {
				gets++
			}
			if x.Answer.Found {
				found++
			}
			last[x.Task] = x
		}
	}
	if gets < 3000 || found < 800 || again < 800 {
		t.Error("too few:", gets, found, again)
	}
}

// told is all of a shop that is to be seen, but timestamps of chains' versions.
func told(d *turns.Turns) string {
	s := d.Shop
	out := fmt.Sprint(s.Table.Clock(), s.Table.Floor(), s.Table.Active(), s.Table.Keys(), s.Table.Dead(), s.Tree.Root(), s.Latches.All(), s.Anchors.Used(), s.A.Used(), s.B.Used())
	for _, id := range s.Tree.Nodes() {
		n, _ := s.Tree.Node(id)
		out += fmt.Sprint("|", id, n)
		for k, h := range n.Rows {
			e, r, is := s.Anchor(h)
			l := d.Row(n.Keys[k])
			for k := range l {
				l[k].TS = 0
			}
			out += fmt.Sprint(" ", e, r, is, l)
		}
	}
	return out
}

// P22.1, P22.4, P22.5: alone: in how many steps, and what it leaves.
func TestAlone(t *testing.T) {
	for seed := range 40 {
		r := rand.New(rand.NewSource(int64(seed)))
		d := newTurns(t, uint8(1+seed%2))
		for n := 1; n <= 12; n++ {
			d.Do(0, api.Call{Kind: api.Begin})
			for range r.Intn(5) {
				d.Do(0, api.Call{Kind: []uint8{3, 3, 3, 4}[r.Intn(4)], Tx: n, Key: string(rune('a' + r.Intn(6))), Value: fmt.Sprint(n)})
			}
			if r.Intn(4) > 0 || d.Shop.Table.Active() == 4 {
				d.Do(0, api.Call{Kind: []uint8{6, 6, 7}[r.Intn(3)], Tx: n})
			}
		}
		for range 40 {
			n, key := 1+r.Intn(12), turns.Key(r.Intn)
			w, _ := d.Tasks[0].Txs.Of(n)
			_, has := d.Shop.Tree.Find(key)
			was, levels, versions := told(d), d.Shop.Tree.Levels(), len(d.Row(key))
			a, steps := d.Do(0, api.Call{Kind: api.Get, Tx: n, Key: key})
			active := d.Shop.Table.State(w) == 1
			switch {
			case !active && (steps != 1 || !model.Same(a, api.Answer{Err: api.Done})),
				active && !has && steps != 2+levels,
				active && has && steps < 5+levels-1,
				active && steps > 4+levels+3*versions:
				t.Fatalf("%d steps, %d levels, %d versions; active %v: %+v", steps, levels, versions, active, a)
			}
			if told(d) != was {
				t.Fatalf("it changed something: %s, %s", was, told(d))
			}
			for _, x := range d.Row(key) {
				if ts, _ := d.Shop.Table.TS(x.Writer); x.TS != 0 && x.TS != ts {
					t.Fatal("a timestamp that the table does not tell:", x, ts)
				}
			}
		}
		d.Check()
	}
}

// P22.1: what a Get holds by each of its steps; it waits for the anchor.
func TestHolds(t *testing.T) {
	for _, home := range []uint8{1, 2} {
		d := newTurns(t, home)
		d.Do(0, api.Call{Kind: api.Begin})
		d.Do(0, api.Call{Kind: api.Put, Tx: 1, Key: "a", Value: "x"})
		h, _ := d.Shop.Tree.Find("a")
		leaf, at := latch.Name{Kind: crab.Node, ID: 1}, latch.Name{Kind: crab.Anchor, ID: uint64(h)}
		d.Shop.Latches.Try(at, 9)
		d.Invoke(0, api.Call{Kind: api.Get, Tx: 1, Key: "a"})
		for k, want := range [][]latch.Name{{}, {{Kind: crab.Word}}, {leaf}, {leaf}, {leaf}, {at}, {at}, {}} {
			if k == 5 {
				d.Shop.Latches.Drop(at, 9)
			}
			if done := d.Step(0); done != (k == 7) || !slices.Equal(d.Shop.Latches.Held(0), want) {
				t.Errorf("home %d, the step %d: %v, not %v; done %v", home, k+1, d.Shop.Latches.Held(0), want, done)
			}
		}
		if a := d.Tasks[0].Mark.Answer; !model.Same(a, api.Answer{Found: true, Value: "x"}) {
			t.Error(a)
		}
	}
}

// P22.1: calls that are refused, and of another Kind; of nil.
func TestRefused(t *testing.T) {
	d := newTurns(t, 1)
	d.Do(0, api.Call{Kind: api.Begin})
	d.Do(0, api.Call{Kind: api.Begin})
	d.Do(0, api.Call{Kind: api.Abort, Tx: 2})
	for _, x := range []struct {
		tx   int
		key  string
		want api.Errno
	}{{3, "a", api.NoTxn}, {0, "", api.NoTxn}, {2, "abcd", api.Done}, {1, "abcd", api.TooLarge}, {1, "", api.TooLarge}, {1, "abc", api.OK}} {
		a, n := d.Do(0, api.Call{Kind: api.Get, Tx: x.tx, Key: x.key, Value: strings.Repeat("x", 99), Limit: -1})
		if (n == 1) != (x.want != api.OK) || !model.Same(a, api.Answer{Err: x.want}) {
			t.Errorf("%+v: %+v in %d steps", x, a, n)
		}
	}
	was, txs := told(d), &d.Tasks[0].Txs
	for k := range 256 {
		if uint8(k) == api.Get {
			continue
		}
		g := get.New(api.Call{Kind: uint8(k), Tx: 1, Key: "a"}, txs)
		if !g.Step(d.Shop, 1) || !model.Same(g.Answer(), api.Answer{}) || told(d) != was {
			t.Errorf("the Kind %d", k)
		}
	}
	var none *get.Get
	g := get.New(api.Call{Kind: api.Get, Tx: 1, Key: "a"}, txs)
	if !none.Step(d.Shop, 1) || !model.Same(none.Answer(), api.Answer{}) || !g.Step(nil, 1) || !model.Same(g.Answer(), api.Answer{}) || told(d) != was {
		t.Error("of nil")
	}
	if g.Step(d.Shop, 1) {
		t.Error("behind a nil shop it goes on")
	}
	g = get.New(api.Call{Kind: api.Get, Tx: 1, Key: "a"}, nil)
	if !g.Step(d.Shop, 1) || g.Answer().Err != api.NoTxn {
		t.Error("of no transactions:", g.Answer())
	}
	var _ ends.Machine = g
}

func TestExamples(t *testing.T) {
	d := newTurns(t, 1)
	d.Do(0, api.Call{Kind: api.Begin})
	d.Do(0, api.Call{Kind: api.Put, Tx: 1, Key: "a", Value: "x"})
	d.Do(0, api.Call{Kind: api.Commit, Tx: 1})
	d.Do(0, api.Call{Kind: api.Begin})
	for _, x := range []struct {
		tx    int
		key   string
		steps int
		want  api.Answer
	}{{2, "a", 8, api.Answer{Found: true, Value: "x"}}, {2, "b", 3, api.Answer{}}, {9, "a", 1, api.Answer{Err: api.NoTxn}}, {2, "a", 6, api.Answer{Found: true, Value: "x"}}} {
		if a, n := d.Do(0, api.Call{Kind: api.Get, Tx: x.tx, Key: x.key}); n != x.steps || !model.Same(a, x.want) {
			t.Errorf("%+v: %d steps, %+v", x, n, a)
		}
	}
}
