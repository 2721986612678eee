package scan_test

import (
	"fmt"
	"math/rand"
	"slices"
	"strings"
	"testing"

	"ferryman/api"
	"ferryman/call"
	"ferryman/crab"
	"ferryman/ends"
	"ferryman/latch"
	"ferryman/put"
	"ferryman/scan"
	"ferryman/turns"
)

func config() api.Config {
	return api.Config{Tasks: 4, Active: 4, Keys: 20, Depth: 5, TS: 500, KeyLen: 2, ValLen: 3, Fan: 3}
}

func anchored(h api.Handle) latch.Name { return latch.Name{Kind: crab.Anchor, ID: uint64(h)} }

func same(a, b api.Answer) bool {
	return a.Err == b.Err && a.Found == b.Found && a.Value == b.Value && slices.Equal(a.Pairs, b.Pairs)
}

func machine(x api.Call, txs *call.Txs) ends.Machine {
	switch x.Kind {
	case api.Put, api.Delete:
		return put.New(x, txs)
	case api.Scan:
		return scan.New(x, txs)
	}
	return ends.New(x, txs)
}

func newTurns(t *testing.T, c api.Config, home uint8) *turns.Turns {
	t.Helper()
	d := turns.New(c, home, machine, func(what string) {
		t.Helper()
		t.Fatal(what)
	})
	d.Behind = func(k int, done bool) {
		if d.Tasks[k].Call.Kind == api.Scan {
			scanned(t, d, k, done)
		}
	}
	return d
}

// scanned holds what a Scan has, behind a step, against the words.
func scanned(t *testing.T, d *turns.Turns, k int, done bool) {
	t.Helper()
	x, held := d.Tasks[k], d.Shop.Latches.Held(k)
	for _, n := range held {
		if n.Kind == crab.Anchor && len(held) > 1 {
			t.Fatal("a Scan holds more than an anchor:", held)
		}
	}
	if len(held) > 1 {
		t.Fatal("a Scan holds more than one node:", held)
	}
	if (x.Mark != nil) != done {
		t.Fatalf("marked %v, done %v", x.Mark != nil, done)
	}
	if a := x.Machine.Answer(); !done && !same(a, api.Answer{}) {
		t.Fatal("answered ahead of its end:", a)
	}
	if done && !x.Machine.Step(d.Shop, k) {
		t.Fatal("a step more")
	}
}

var letters = strings.Split("abcdefghijklmno", "")

func some(d *turns.Turns, r *rand.Rand, k int) api.Call {
	n, active := d.Active(k)
	if !active {
		return api.Call{Kind: api.Begin}
	}
	x := api.Call{Kind: []uint8{3, 3, 3, 3, 4, 5, 5, 5, 6, 6, 7}[r.Intn(11)], Tx: n, Key: letters[r.Intn(15)], Value: fmt.Sprint(r.Intn(100))}
	if x.Kind == api.Scan {
		x.Limit = []int{0, 1, 2, 3, 5, 128}[r.Intn(6)]
		if r.Intn(2) == 0 {
			x.End = letters[r.Intn(15)]
		}
		if r.Intn(2) == 0 {
			x.Key = ""
		}
	}
	return x
}

// P24.2, P24.4, P24.5: whatever goes on, ahead of, between, behind a Scan's steps.
func TestAmongOthers(t *testing.T) {
	pairs := 0
	for seed := range 80 {
		r := rand.New(rand.NewSource(int64(seed)))
		d := newTurns(t, config(), uint8(1+seed%2))
		out := ends.NewRemove("a")
		for range 2500 {
			if k := r.Intn(4); !d.Under(k) {
				d.Invoke(k, some(d, r, k))
			} else {
				d.Step(k)
			}
			switch r.Intn(20) {
			case 0, 1, 2:
				d.AtOnce(letters[r.Intn(15)], r.Intn(2) == 0)
			case 3:
				if r.Intn(5) == 0 {
					d.Vacuum()
				}
			}
			if out.Step(d.Shop, 7) {
				out = ends.NewRemove(letters[r.Intn(15)])
			}
		}
		if !turns.Till(func() bool { d.Round(); return out.Step(d.Shop, 7) }) {
			t.Fatal("it does not end")
		}
		d.Finish()
		d.Answers()
		for _, x := range d.Marks {
			pairs += len(x.Answer.Pairs)
		}
	}
	if pairs < 2000 {
		t.Error("too few pairs:", pairs)
	}
}

// P24.3: the beginning of what a greater Limit tells; two parts together.
func TestAsEachOther(t *testing.T) {
	for seed := range 40 {
		r := rand.New(rand.NewSource(int64(seed)))
		d := newTurns(t, config(), uint8(1+seed%2))
		d.Do(0, api.Call{Kind: api.Begin})
		for range 20 {
			d.Do(0, api.Call{Kind: []uint8{3, 3, 4}[r.Intn(3)], Tx: 1, Key: letters[r.Intn(15)], Value: "v"})
		}
		for range 20 {
			cut := []string{"", letters[r.Intn(15)], letters[r.Intn(15)], letters[r.Intn(15)]}
			slices.Sort(cut)
			from, mid, end := cut[r.Intn(2)], cut[2], cut[3]
			x := api.Call{Kind: api.Scan, Tx: 1, Key: from, End: end, Limit: 128}
			all, _ := d.Do(0, x)
			x.Limit = r.Intn(8)
			if less, _ := d.Do(0, x); !slices.Equal(less.Pairs, all.Pairs[:min(len(all.Pairs), x.Limit)]) {
				t.Fatalf("%+v: %v, of %v", x, less, all)
			}
			x.Limit = 128
			x.End = mid
			one, _ := d.Do(0, x)
			x.Key, x.End = mid, end
			other, _ := d.Do(0, x)
			if from < mid && mid < end && !slices.Equal(append(one.Pairs, other.Pairs...), all.Pairs) {
				t.Fatalf("%q, %q, %q: %v, %v, not %v", from, mid, end, one, other, all)
			}
		}
		d.Answers()
	}
}

// P24.1: what is told at the first step; what is refused; of another Kind; of nil.
func TestNothing(t *testing.T) {
	d := newTurns(t, config(), 1)
	d.Do(0, api.Call{Kind: api.Begin})
	d.Do(0, api.Call{Kind: api.Put, Tx: 1, Key: "b"})
	d.Do(0, api.Call{Kind: api.Begin})
	d.Do(0, api.Call{Kind: api.Abort, Tx: 2})
	for _, x := range []struct {
		tx       int
		key, end string
		limit    int
		want     api.Errno
		steps    int
	}{
		{3, "abc", "", 5, api.NoTxn, 1}, {2, "abc", "", 5, api.Done, 1}, {1, "abc", "", 5, api.TooLarge, 1}, {1, "", "abc", 5, api.TooLarge, 1},
		{1, "", "", -1, api.TooLarge, 1}, {1, "", "", 129, api.TooLarge, 1},
		{1, "", "", 0, api.OK, 1}, {1, "a", "z", 0, api.OK, 1}, {1, "b", "b", 5, api.OK, 1}, {1, "c", "b", 5, api.OK, 1}, {1, "c", "bb", 128, api.OK, 1},
		{1, "c", "", 5, api.OK, 3}, {1, "", "b", 5, api.OK, 3}, {1, "", "a", 5, api.OK, 3},
	} {
		a, n := d.Do(0, api.Call{Kind: api.Scan, Tx: x.tx, Key: x.key, End: x.end, Limit: x.limit, Value: "too large"})
		if !same(a, api.Answer{Err: x.want}) || n != x.steps {
			t.Errorf("%+v: %+v in %d steps", x, a, n)
		}
	}
	d.Answers()
	was := fmt.Sprint(d.Shop.Table.Active(), d.Shop.Latches.All(), d.Shop.Log.Events())
	for k := range 256 {
		if uint8(k) == api.Scan {
			continue
		}
		if x := scan.New(api.Call{Kind: uint8(k), Tx: 1, Limit: 5}, &d.Tasks[0].Txs); !x.Step(d.Shop, 0) || !same(x.Answer(), api.Answer{}) {
			t.Errorf("the Kind %d", k)
		}
	}
	var none *scan.Scan
	x := scan.New(api.Call{Kind: api.Scan, Tx: 1, Limit: 5}, &d.Tasks[0].Txs)
	if !none.Step(d.Shop, 0) || !same(none.Answer(), api.Answer{}) || !x.Step(nil, 0) || !same(x.Answer(), api.Answer{}) {
		t.Error("of nil")
	}
	if was != fmt.Sprint(d.Shop.Table.Active(), d.Shop.Latches.All(), d.Shop.Log.Events()) {
		t.Error("something was done")
	}
	if x.Step(d.Shop, 0) {
		t.Error("behind a nil shop it goes on")
	}
	if x := scan.New(api.Call{Kind: api.Scan, Tx: 1}, nil); !x.Step(d.Shop, 0) || x.Answer().Err != api.NoTxn {
		t.Error("of no transactions:", x.Answer())
	}
	var _ ends.Machine = x
}

// R1: what is told shares no memory.
func TestApart(t *testing.T) {
	d := newTurns(t, config(), 2)
	d.Do(0, api.Call{Kind: api.Begin})
	for _, key := range letters[:5] {
		d.Do(0, api.Call{Kind: api.Put, Tx: 1, Key: key, Value: key})
	}
	x := scan.New(api.Call{Kind: api.Scan, Tx: 1, Limit: 128}, &d.Tasks[0].Txs)
	if !turns.Till(func() bool { return x.Step(d.Shop, 0) }) {
		t.Fatal("it does not end")
	}
	a := x.Answer()
	if len(a.Pairs) != 5 {
		t.Fatal(a)
	}
	a.Pairs[0].Key = "changed"
	if b := x.Answer(); b.Pairs[0] != (api.Pair{Key: "a", Value: "a"}) {
		t.Error("what was told is kept:", b)
	}
}

// P24.1, P24.5: what a Scan holds by each of its steps, also where it waits.
func TestHolds(t *testing.T) {
	d := newTurns(t, config(), 1)
	d.Do(0, api.Call{Kind: api.Begin})
	for _, key := range []string{"a", "b"} {
		d.Do(0, api.Call{Kind: api.Put, Tx: 1, Key: key, Value: key})
	}
	a, _ := d.Shop.Tree.Find("a")
	b, _ := d.Shop.Tree.Find("b")
	d.Shop.Latches.Try(anchored(b), 9)
	d.Invoke(0, api.Call{Kind: api.Scan, Tx: 1, Limit: 5})
	w, n := latch.Name{Kind: crab.Word}, latch.Name{Kind: crab.Node, ID: 1}
	for k, want := range [][]latch.Name{{}, {w}, {n}, {anchored(a)}, {anchored(a)}, {}, {w}, {n}, {n}, {n}, {anchored(b)}, {anchored(b)}, {}, {w}, {}} {
		if k == 10 {
			d.Shop.Latches.Drop(anchored(b), 9)
		}
		if done := d.Step(0); done != (k == 14) || !slices.Equal(d.Shop.Latches.Held(0), want) {
			t.Errorf("the step %d: %v, not %v; done %v", k+1, d.Shop.Latches.Held(0), want, done)
		}
	}
	d.Answers()
}

func TestExamples(t *testing.T) {
	d := newTurns(t, config(), 1)
	d.Do(0, api.Call{Kind: api.Begin})
	for _, key := range []string{"a", "b"} {
		d.Do(0, api.Call{Kind: api.Put, Tx: 1, Key: key, Value: key})
	}
	d.Do(0, api.Call{Kind: api.Commit, Tx: 1})
	d.Do(0, api.Call{Kind: api.Begin})
	for _, key := range []string{"a", "b"} {
		h, _ := d.Shop.Tree.Find(key)
		_, top, _ := d.Shop.Anchor(h)
		d.Shop.A.Stamp(top, 1)
	}
	all := []api.Pair{{Key: "a", Value: "a"}, {Key: "b", Value: "b"}}
	for _, x := range []struct {
		limit, steps int
		want         []api.Pair
	}{{5, 13, all}, {1, 6, all[:1]}, {0, 1, nil}, {2, 11, all}} {
		if a, n := d.Do(0, api.Call{Kind: api.Scan, Tx: 2, Limit: x.limit}); n != x.steps || !slices.Equal(a.Pairs, x.want) {
			t.Errorf("Limit %d: %d steps, %+v", x.limit, n, a)
		}
	}
}
