package put_test

import (
	"fmt"
	"math/rand"
	"slices"
	"strings"
	"testing"

	"ferryman/api"
	"ferryman/call"
	"ferryman/crab"
	"ferryman/ends"
	"ferryman/latch"
	"ferryman/put"
	"ferryman/turns"
)

func config() api.Config {
	return api.Config{Tasks: 4, Active: 4, Keys: 9, Depth: 4, TS: 60, KeyLen: 2, ValLen: 3, Fan: 3}
}

func anchored(h api.Handle) latch.Name { return latch.Name{Kind: crab.Anchor, ID: uint64(h)} }
func node(id int) latch.Name           { return latch.Name{Kind: crab.Node, ID: uint64(id)} }
func word() latch.Name                 { return latch.Name{Kind: crab.Word} }

func same(a, b api.Answer) bool {
	return a.Err == b.Err && a.Found == b.Found && a.Value == b.Value && slices.Equal(a.Pairs, b.Pairs)
}

// machine makes the machine of a call.
func machine(x api.Call, txs *call.Txs) ends.Machine {
	if x.Kind == api.Put || x.Kind == api.Delete {
		return put.New(x, txs)
	}
	return ends.New(x, txs)
}

func newTurns(t *testing.T, c api.Config, home uint8) *turns.Turns {
	t.Helper()
	return turns.New(c, home, machine, func(what string) {
		t.Helper()
		t.Fatal(what)
	})
}

// some is some call of a task.
func some(d *turns.Turns, r *rand.Rand, k int) api.Call {
	n, active := d.Active(k)
	if r.Intn(40) == 0 {
		n += r.Intn(3) - 1
	} else if !active {
		return api.Call{Kind: api.Begin}
	}
	x := api.Call{Kind: []uint8{3, 3, 3, 3, 3, 4, 4, 6, 7}[r.Intn(9)], Tx: n, Key: string(rune('a' + r.Intn(12))), Value: fmt.Sprint(r.Intn(100))}
	if r.Intn(50) == 0 {
		x.Key, x.Value = strings.Repeat("k", r.Intn(4)), strings.Repeat("v", r.Intn(5))
	}
	return x
}

// P23.2 to P23.4: whatever turns.
func TestAmongOthers(t *testing.T) {
	answered := map[api.Errno]int{}
	for seed := range 120 {
		r := rand.New(rand.NewSource(int64(seed)))
		c := config()
		c.Keys, c.Depth, c.TS = 3+r.Intn(8), 2+r.Intn(4), 5+r.Intn(50)
		d := newTurns(t, c, uint8(1+seed%2))
		for range 1500 {
			if k := r.Intn(c.Tasks); !d.Under(k) {
				d.Invoke(k, some(d, r, k))
			} else {
				d.Step(k)
			}
		}
		d.Finish()
		d.Check()
		for _, x := range d.Marks {
			answered[x.Answer.Err]++
		}
	}
	for _, e := range []api.Errno{api.OK, api.NoTxn, api.Done, api.TooLarge, api.Conflict, api.Full, api.Exhausted} {
		if answered[e] < 10 {
			t.Errorf("%v was answered %d times", e, answered[e])
		}
	}
}

// P23.4: two at once on one key, each pair of turns.
func TestTwoAtOnce(t *testing.T) {
	for seed := range 300 {
		r := rand.New(rand.NewSource(int64(seed)))
		d := newTurns(t, config(), uint8(1+seed%2))
		if seed%3 > 0 {
			d.Do(2, api.Call{Kind: api.Begin})
			d.Do(2, api.Call{Kind: api.Put, Tx: 1, Key: "k", Value: "0"})
			d.Do(2, api.Call{Kind: []uint8{api.Commit, api.Abort}[seed%2], Tx: 1})
		}
		ended := []int{}
		for k := range 2 {
			d.Do(k, api.Call{Kind: api.Begin})
		}
		for k := range 2 {
			d.Invoke(k, api.Call{Kind: []uint8{api.Put, api.Put, api.Delete}[r.Intn(3)], Tx: 1, Key: "k", Value: fmt.Sprint(k)})
		}
		for n := 0; len(ended) < 2; n++ {
			if k := r.Intn(2); d.Under(k) && d.Step(k) {
				ended = append(ended, k)
			}
			if n > 500 {
				t.Fatal("they do not end")
			}
		}
		if l := d.Marks[len(d.Marks)-2:]; l[0].Task != ended[0] && l[0].Answer.Err == api.OK && l[1].Answer.Err == api.Conflict {
			h, _ := d.Shop.Tree.Find("k")
			t.Fatal("not one behind the other:", ended, h)
		}
		d.Check()
	}
}

// P23.5: with the other home the same acts are answered the same.
func TestEitherEngine(t *testing.T) {
	for seed := range 60 {
		r := rand.New(rand.NewSource(int64(seed)))
		one, other := newTurns(t, config(), 1), newTurns(t, config(), 2)
		for range 120 {
			k := r.Intn(4)
			x := some(one, r, k)
			a, _ := one.Do(k, x)
			if b, _ := other.Do(k, x); !same(a, b) {
				t.Fatalf("%+v: %+v, %+v", x, a, b)
			}
		}
		one.Check()
		other.Check()
	}
}

// P23.1: a row that a falling one's intent stands on, and what the floor leaves.
func TestOffAndSweep(t *testing.T) {
	for _, home := range []uint8{1, 2} {
		d := newTurns(t, config(), home)
		begin, commit := api.Call{Kind: api.Begin}, func(n int) api.Call { return api.Call{Kind: api.Commit, Tx: n} }
		put := func(n int, v string) api.Call { return api.Call{Kind: api.Put, Tx: n, Key: "k", Value: v} }
		for n := 1; n <= 3; n++ {
			d.Do(0, begin)
			d.Do(0, put(n, fmt.Sprint(n)))
			d.Do(0, commit(n))
		}
		d.Do(1, begin)
		d.Do(1, put(1, "x"))
		d.Do(0, begin)
		d.Invoke(1, api.Call{Kind: api.Abort, Tx: 1})
		d.Step(1)
		d.Step(1)
		d.Shop.Table.Vacuum()
		a, n := d.Do(0, put(4, "4"))
		// the head, 3 to find it, the anchor and 4 versions, the table; 2 for the Off, 3 for the Sweep, 2 for the Put
		if want := 1 + 3 + 5 + 1 + 2 + 3 + 2; a.Err != api.OK || n != want {
			t.Errorf("home %d: %+v in %d steps, not %d", home, a, n, want)
		}
		l := d.Row("k")
		if len(l) != 2 || l[0].Value != "4" || l[1].Value != "3" || d.Shop.A.Used()+d.Shop.B.Used() != 2 {
			t.Errorf("home %d: %v", home, l)
		}
		d.Finish()
		if l := d.Row("k"); len(l) != 2 || l[0].Value != "4" {
			t.Errorf("home %d: %v", home, l)
		}
	}
}

// P23.1: the engine of a new key is the home that was told by the judging.
func TestHome(t *testing.T) {
	for _, home := range []uint8{1, 2} {
		for moved := range 6 {
			d := newTurns(t, config(), home)
			d.Do(0, api.Call{Kind: api.Begin})
			d.Invoke(0, api.Call{Kind: api.Put, Tx: 1, Key: "k", Value: "v"})
			for n := 0; d.Under(0); n++ {
				if n == moved {
					d.Shop.Table.Move(3 - home)
				}
				d.Step(0)
			}
			want := home
			if moved <= 3 {
				want = 3 - home
			}
			h, _ := d.Shop.Tree.Find("k")
			if engine, _, _ := d.Shop.Anchor(h); engine != want {
				t.Errorf("home %d, moved ahead of the step %d: engine %d", home, moved+1, engine)
			}
			d.Check()
		}
	}
}

// P23.1: what a Put of a new key holds and does by each step; also where the leaf is split.
func TestNewKey(t *testing.T) {
	for _, home := range []uint8{1, 2} {
		d := newTurns(t, config(), home)
		d.Do(0, api.Call{Kind: api.Begin})
		for _, key := range []string{"a", "b", "c"} {
			if a, n := d.Do(0, api.Call{Kind: api.Put, Tx: 1, Key: key}); a.Err != api.OK || n != 8 {
				t.Error(a, n)
			}
		}
		d.Invoke(0, api.Call{Kind: api.Put, Tx: 1, Key: "d"})
		var at latch.Name // the new anchor's
		for k, want := range []int{0, 1, 2, 2, 3, 3, 1, 1, 0} {
			done := d.Step(0)
			held := d.Shop.Latches.Held(0)
			if k == 4 { // the root word, the leaf, and that
				at = held[len(held)-1]
			}
			new := slices.Contains(held, at) && at.Kind == crab.Anchor
			old := slices.Contains(held, word()) && slices.Contains(held, node(1))
			if len(held) != want || new != (k >= 4 && k < 8) || old != (k >= 2 && k < 6) || done != (k == 8) {
				t.Errorf("home %d, the step %d: holds %v; done %v", home, k+1, held, done)
			}
			mark := d.Tasks[0].Mark != nil
			keys, anchors, slots := d.Shop.Table.Keys(), d.Shop.Anchors.Used(), d.Shop.A.Used()+d.Shop.B.Used()
			wantKeys, wantAnchors, wantSlots := 3, 3, 3
			if k >= 3 {
				wantKeys = 4
			}
			if k >= 4 {
				wantAnchors = 4
			}
			if k >= 7 {
				wantSlots = 4
			}
			if mark != (k >= 3) || keys != wantKeys || anchors != wantAnchors || slots != wantSlots {
				t.Errorf("home %d, the step %d: mark %v, %d keys, %d anchors, %d slots", home, k+1, mark, keys, anchors, slots)
			}
			if _, top, _ := d.Shop.Anchor(api.Handle(at.ID)); (top != 0) != (k >= 8) {
				t.Errorf("home %d, the step %d: the anchor's row %d", home, k+1, top)
			}
		}
		d.Check()
	}
}

// P23.1: what a Put, and a Delete, of a key that is there holds by each step, also where it waits.
func TestKeyThere(t *testing.T) {
	for _, kind := range []uint8{api.Put, api.Delete} {
		for _, home := range []uint8{1, 2} {
			d := newTurns(t, config(), home)
			d.Do(0, api.Call{Kind: api.Begin})
			d.Do(0, api.Call{Kind: api.Put, Tx: 1, Key: "k"})
			h, _ := d.Shop.Tree.Find("k")
			d.Shop.Latches.Try(anchored(h), 9)
			d.Invoke(0, api.Call{Kind: kind, Tx: 1, Key: "k", Value: "v"})
			n, at := node(1), anchored(h)
			for k, want := range [][]latch.Name{{}, {word()}, {n}, {n}, {n}, {at}, {at}, {at}, {at}, {}} {
				if k == 5 {
					d.Shop.Latches.Drop(at, 9)
				}
				if done := d.Step(0); done != (k == 9) || !slices.Equal(d.Shop.Latches.Held(0), want) {
					t.Errorf("the Kind %d, home %d, the step %d: %v, not %v; done %v", kind, home, k+1, d.Shop.Latches.Held(0), want, done)
				}
				if (d.Tasks[0].Mark != nil) != (k >= 8) {
					t.Errorf("the mark, by the step %d", k+1)
				}
			}
			if a := d.Tasks[0].Mark.Answer; a.Err != api.OK || a.Found != (kind == api.Delete) {
				t.Error(a)
			}
			d.Check()
		}
	}
}

// P23.1: a Delete of what is not there, or not found; what is refused; of another Kind; of nil.
func TestNothing(t *testing.T) {
	d := newTurns(t, config(), 1)
	d.Do(0, api.Call{Kind: api.Begin})
	d.Do(0, api.Call{Kind: api.Begin})
	d.Do(0, api.Call{Kind: api.Abort, Tx: 2})
	if a, n := d.Do(0, api.Call{Kind: api.Delete, Tx: 1, Key: "k"}); !same(a, api.Answer{}) || n != 4 || d.Shop.Table.Keys() != 0 {
		t.Error("of what is not there:", a, n)
	}
	d.Do(0, api.Call{Kind: api.Put, Tx: 1, Key: "k"})
	if a, _ := d.Do(0, api.Call{Kind: api.Delete, Tx: 1, Key: "k"}); !same(a, api.Answer{Found: true}) {
		t.Error(a)
	}
	if a, n := d.Do(0, api.Call{Kind: api.Delete, Tx: 1, Key: "k"}); !same(a, api.Answer{}) || n != 7 {
		t.Error("of what is not found:", a, n)
	}
	long := strings.Repeat("x", 4)
	for _, x := range []struct {
		c    api.Call
		want api.Errno
	}{
		{api.Call{Kind: api.Put, Tx: 3, Key: long}, api.NoTxn}, {api.Call{Kind: api.Delete, Tx: 2, Key: long}, api.Done},
		{api.Call{Kind: api.Put, Tx: 1, Key: ""}, api.TooLarge}, {api.Call{Kind: api.Put, Tx: 1, Key: "k", Value: long}, api.TooLarge},
		{api.Call{Kind: api.Delete, Tx: 1, Key: long}, api.TooLarge},
	} {
		if a, n := d.Do(0, x.c); !same(a, api.Answer{Err: x.want}) || n != 1 {
			t.Errorf("%+v: %+v in %d steps", x.c, a, n)
		}
	}
	d.Check()
	was := fmt.Sprint(d.Shop.Table.Keys(), d.Shop.Latches.All(), d.Shop.A.Used(), d.Shop.Log.Events())
	for k := range 256 {
		kind := uint8(k)
		if kind == api.Put || kind == api.Delete {
			continue
		}
		if p := put.New(api.Call{Kind: kind, Tx: 1, Key: "k"}, &d.Tasks[0].Txs); !p.Step(d.Shop, 0) || !same(p.Answer(), api.Answer{}) {
			t.Errorf("the Kind %d", k)
		}
	}
	var none *put.Put
	p := put.New(api.Call{Kind: api.Put, Tx: 1, Key: "k"}, &d.Tasks[0].Txs)
	if !none.Step(d.Shop, 0) || !same(none.Answer(), api.Answer{}) || !p.Step(nil, 0) || !same(p.Answer(), api.Answer{}) {
		t.Error("of nil")
	}
	if was != fmt.Sprint(d.Shop.Table.Keys(), d.Shop.Latches.All(), d.Shop.A.Used(), d.Shop.Log.Events()) {
		t.Error("something was done")
	}
	if p.Step(d.Shop, 0) || !same(p.Answer(), api.Answer{}) {
		t.Error("behind a nil shop it goes on; it is answered ahead of its end")
	}
	if p := put.New(api.Call{Kind: api.Put, Tx: 1, Key: "k"}, nil); !p.Step(d.Shop, 0) || p.Answer().Err != api.NoTxn {
		t.Error("of no transactions:", p.Answer())
	}
}

// P23.1: Full, by the keys, and by a key's versions; the leaf, or the anchor, is let go of.
func TestFull(t *testing.T) {
	for _, home := range []uint8{1, 2} {
		c := config()
		c.Keys, c.Depth = 1, 2
		d := newTurns(t, c, home)
		for n := 1; n <= 2; n++ {
			d.Do(0, api.Call{Kind: api.Begin})
			d.Do(0, api.Call{Kind: api.Put, Tx: n, Key: "k"})
			d.Do(0, api.Call{Kind: api.Commit, Tx: n})
		}
		d.Do(0, api.Call{Kind: api.Begin})
		if a, n := d.Do(0, api.Call{Kind: api.Put, Tx: 3, Key: "m"}); !same(a, api.Answer{Err: api.Full}) || n != 4 {
			t.Error(a, n)
		}
		if a, n := d.Do(0, api.Call{Kind: api.Put, Tx: 3, Key: "k"}); !same(a, api.Answer{Err: api.Full}) || n != 8 {
			t.Error(a, n)
		}
		if a, _ := d.Do(0, api.Call{Kind: api.Delete, Tx: 3, Key: "k"}); !same(a, api.Answer{Err: api.Full}) {
			t.Error(a)
		}
		d.Check()
	}
}

func TestExamples(t *testing.T) {
	d := newTurns(t, config(), 1)
	d.Do(0, api.Call{Kind: api.Begin})
	d.Do(1, api.Call{Kind: api.Begin})
	x := api.Call{Kind: api.Put, Tx: 1, Key: "k", Value: "1"}
	for k, want := range []int{8, 8} {
		if a, n := d.Do(0, x); a.Err != api.OK || n != want {
			t.Error(k, a, n)
		}
	}
	if a, n := d.Do(1, x); a.Err != api.Conflict || n != 7 {
		t.Error(a, n)
	}
}
