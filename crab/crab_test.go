package crab_test

import (
	"fmt"
	"math/rand"
	"slices"
	"testing"

	"ferryman/api"
	"ferryman/crab"
	"ferryman/fork"
	"ferryman/latch"
	"ferryman/tree"
	"ferryman/turns"
)

func make1(t *testing.T, fan int, keys ...string) *tree.Tree {
	t.Helper()
	x, e := tree.New(fan)
	if e != api.OK {
		t.Fatal(e)
	}
	for k, key := range keys {
		if e := x.Insert(key, api.Handle(k+1)); e != api.OK {
			t.Fatal(key, e)
		}
	}
	return x
}

func leaf(keys ...string) fork.Node {
	n := fork.Node{Leaf: true, Keys: keys}
	for k := range keys {
		n.Rows = append(n.Rows, api.Handle(100+k))
	}
	return n
}

func word() latch.Name         { return latch.Name{Kind: crab.Word} }
func node(id int) latch.Name   { return latch.Name{Kind: crab.Node, ID: uint64(id)} }
func told(x *tree.Tree) string { return fmt.Sprint(x.Root(), nodes(x)) }
func nodes(x *tree.Tree) map[int]fork.Node {
	out := map[int]fork.Node{}
	for _, id := range x.Nodes() {
		out[id], _ = x.Node(id)
	}
	return out
}

// holds tells what a descent holds: its path, and the root word, if the task has it.
func holds(t *testing.T, c *crab.Crab, l *latch.Latches, task int, withWord bool) {
	t.Helper()
	var want []latch.Name
	if withWord {
		want = append(want, word())
	}
	ids := c.Path()
	slices.Sort(ids)
	for _, id := range ids {
		want = append(want, node(id))
	}
	if got := l.Held(task); !slices.Equal(got, want) {
		t.Fatalf("the task %d holds %v, not %v", task, got, want)
	}
}

// arrive has a descent arrive, alone; how many steps that took.
func arrive(t *testing.T, c *crab.Crab, x *tree.Tree, l *latch.Latches, task int) int {
	t.Helper()
	for n := 1; n < 40; n++ {
		if c.Step(x, l, task) {
			return n
		}
	}
	t.Fatal("it does not arrive")
	return 0
}

var letters = func() []string {
	var l []string
	for c := 'a'; c <= 'z'; c++ {
		l = append(l, string(c), string(c)+"m")
	}
	return l
}()

// grown is a tree to which something was done, and the keys that it has.
func grown(t *testing.T, r *rand.Rand, fan int) *tree.Tree {
	x := make1(t, fan)
	for range r.Intn(150) {
		key := letters[r.Intn(len(letters))]
		if r.Intn(3) == 0 {
			x.Delete(key)
		} else {
			x.Insert(key, api.Handle(1+r.Intn(99)))
		}
	}
	if r.Intn(3) == 0 { // such as have nodes with one kid alone
		for _, key := range x.Keys() {
			if r.Intn(3) > 0 {
				x.Delete(key)
			}
		}
	}
	return x
}

// way tells by the words the nodes from the root to the leaf that has a key, and the fence.
func way(x *tree.Tree, key string) (ids []int, fence string, fenced bool) {
	id := x.Root()
	for {
		n, _ := x.Node(id)
		ids = append(ids, id)
		if n.Leaf {
			return ids, fence, fenced
		}
		kid := 0
		for kid < len(n.Keys) && n.Keys[kid] <= key {
			kid++
		}
		if kid < len(n.Keys) {
			fence, fenced = n.Keys[kid], true
		}
		id = n.Kids[kid]
	}
}

func safe(n fork.Node, fan int, mode uint8, root bool) bool {
	switch mode {
	case fork.Look:
		return true
	case fork.Insert:
		return len(n.Keys) < fan
	case fork.Delete:
		if n.Leaf {
			return root || len(n.Keys) > 1
		}
		return len(n.Kids) > 2 || !root && len(n.Kids) == 2
	}
	return false
}

// P15.1 to P15.3, P15.7: the steps down, alone; what is held by each.
func TestDown(t *testing.T) {
	r := rand.New(rand.NewSource(1))
	for range 600 {
		fan := 3 + r.Intn(3)
		x, l := grown(t, r, fan), latch.New()
		mode, key := uint8(r.Intn(4)), letters[r.Intn(len(letters))]
		c := crab.New(mode, key)
		ids, fence, fenced := way(x, key)
		if c.Step(x, l, 3) || len(c.Path()) != 0 {
			t.Fatal("the root word")
		}
		holds(t, c, l, 3, true)
		var path []int
		withWord := true
		for k, id := range ids {
			if row, is := c.Row(x); row != 0 || is {
				t.Fatal("a row, though it has not arrived")
			}
			n, _ := x.Node(id)
			if got := c.Step(x, l, 3); got != n.Leaf {
				t.Fatalf("arrived: %v", got)
			}
			path = append(path, id)
			if safe(n, fan, mode, k == 0) {
				path, withWord = []int{id}, false
			}
			if !slices.Equal(c.Path(), path) {
				t.Fatalf("mode %d, key %q: path %v, not %v, of %v", mode, key, c.Path(), path, told(x))
			}
			holds(t, c, l, 3, withWord)
		}
		if got, is := c.Fence(); got != fence || is != fenced {
			t.Fatalf("Fence: %q, %v, not %q, %v", got, is, fence, fenced)
		}
		was, held := told(x), l.Held(3)
		if !c.Step(x, l, 3) || told(x) != was || !slices.Equal(l.Held(3), held) {
			t.Fatal("a step more")
		}
		row, is := c.Row(x)
		if want, has := x.Find(key); row != want || is != has {
			t.Fatalf("Row: %d, %v, not %d, %v", row, is, want, has)
		}
		first, row, is := c.Least(x)
		next, want, has := x.Next(key)
		if has && fenced && next >= fence {
			next, want, has = "", 0, false
		}
		if first != next || row != want || is != has {
			t.Fatalf("Least: %q, %d, %v, not %q, %d, %v", first, row, is, next, want, has)
		}
		if r.Intn(2) == 0 {
			c.Loose(l, 3)
			if !slices.Equal(c.Path(), ids[len(ids)-1:]) {
				t.Fatal("Loose:", c.Path())
			}
			holds(t, c, l, 3, false)
		}
		c.Leave(l, 3)
		if l.All() != 0 || len(c.Path()) != 0 || c.Step(x, l, 3) || l.All() != 0 {
			t.Fatal("Leave:", l.Held(3))
		}
		if _, is := c.Row(x); is {
			t.Fatal("a row behind Leave")
		}
		if _, _, is := c.Least(x); is {
			t.Fatal("a least one behind Leave")
		}
		if !c.Put(x, 1) || !c.Take(x) || told(x) != was {
			t.Fatal("Put, Take behind Leave")
		}
	}
}

// P15.1: a latch that another task holds is not had; the next step tries it again.
func TestTries(t *testing.T) {
	r := rand.New(rand.NewSource(2))
	for range 200 {
		x, l := grown(t, r, 3), latch.New()
		mode, key := uint8(r.Intn(3)), letters[r.Intn(len(letters))]
		c := crab.New(mode, key)
		ids, _, _ := way(x, key)
		names := []latch.Name{word()}
		for _, id := range ids {
			names = append(names, node(id))
		}
		for k, n := range names {
			l.Try(n, 8)
			held, path := l.Held(5), c.Path()
			fence, fenced := c.Fence()
			for range 2 {
				if c.Step(x, l, 5) || !slices.Equal(l.Held(5), held) || !slices.Equal(c.Path(), path) {
					t.Fatal("a try that fails does something")
				}
				if s, is := c.Fence(); s != fence || is != fenced {
					t.Fatal("a try that fails has a fence:", s)
				}
			}
			l.Drop(n, 8)
			if c.Step(x, l, 5) != (k == len(names)-1) {
				t.Fatal("had:", k, len(names))
			}
			if owner, is := l.Owner(n); !is || owner != 5 {
				t.Fatal("not had:", n)
			}
		}
	}
}

// diff tells what of one tree's nodes is otherwise in another one: what was set, made, what is gone.
func diff(a, b map[int]fork.Node) (set, made, gone []int) {
	for id, n := range a {
		if m, is := b[id]; !is {
			gone = append(gone, id)
		} else if !fork.Same(n, m) {
			set = append(set, id)
		}
	}
	for id := range b {
		if _, is := a[id]; !is {
			made = append(made, id)
		}
	}
	slices.Sort(set)
	slices.Sort(made)
	slices.Sort(gone)
	return set, made, gone
}

func most(x *tree.Tree) int {
	ids := x.Nodes()
	return ids[len(ids)-1]
}

// P15.2, P15.4: the steps of a Put, and that it comes to what Insert does alone.
func TestPut(t *testing.T) {
	r := rand.New(rand.NewSource(3))
	roots := 0
	for range 1500 {
		fan := 3 + r.Intn(2)
		x, l := grown(t, r, fan), latch.New()
		if r.Intn(2) == 0 {
			x = make1(t, fan, letters[:r.Intn(20)]...)
		}
		key := letters[r.Intn(len(letters))]
		if _, is := x.Find(key); is {
			continue
		}
		alone := x.Copy()
		alone.Insert(key, 77)
		ids, _, _ := way(x, key)
		c := crab.New(fork.Insert, key)
		arrive(t, c, x, l, 1)
		held := l.Held(1)
		done, high := false, 0
		for at := len(ids) - 1; at >= 0 && !done; at-- {
			before, root := nodes(x), x.Root()
			n := before[ids[at]]
			done = c.Put(x, 77)
			set, made, gone := diff(before, nodes(x))
			full := len(n.Keys) == fan
			if !slices.Equal(set, []int{ids[at]}) || len(gone) != 0 || len(made) > 0 != full || len(made) > 1 || x.Root() != root || done == full {
				t.Fatalf("at %d of %v, of %v: set %v, made %v, gone %v, done %v", at, ids, before, set, made, gone, done)
			}
			if full {
				high = made[0]
				low, _ := x.Node(ids[at])
				up, _ := x.Node(high)
				rest := fan + 1 - (fan+2)/2
				if !n.Leaf { // the key in the middle goes up
					rest--
				}
				if len(low.Keys) != (fan+2)/2 || len(up.Keys) != rest {
					t.Fatalf("the halves %v, %v", low, up)
				}
			}
			if c.Loose(l, 1); !slices.Equal(l.Held(1), held) {
				t.Fatal("Loose behind a Put's beginning")
			}
		}
		if !done {
			roots++
			before := nodes(x)
			done = c.Put(x, 77)
			set, made, gone := diff(before, nodes(x))
			n, _ := x.Node(x.Root())
			if !done || len(set)+len(gone) != 0 || !slices.Equal(made, []int{x.Root()}) || !slices.Equal(n.Kids, []int{ids[0], high}) || len(n.Keys) != 1 {
				t.Fatalf("the new root %d, %v: set %v, made %v, gone %v, done %v", x.Root(), n, set, made, gone, done)
			}
		}
		if told(x) != told(alone) || !x.Legal() {
			t.Fatalf("%q: %v, alone %v", key, told(x), told(alone))
		}
		if !c.Put(x, 78) || told(x) != told(alone) || !slices.Equal(l.Held(1), held) {
			t.Fatal("once more")
		}
		c.Leave(l, 1)
		if l.All() != 0 {
			t.Fatal("Leave:", l.Held(1))
		}
		if a, b := x.Make(leaf()), alone.Make(leaf()); a != b {
			t.Fatal("numbers:", a, b)
		}
	}
	if roots < 50 {
		t.Error("too few new roots:", roots)
	}
}

// taken tells by the words the steps of a Take: of each what is set, the root behind it, what is gone.
type act struct{ set, root, gone int }

func taken(x *tree.Tree, ids []int) []act {
	root, last := x.Root(), len(ids)-1
	acts := []act{{set: ids[last], root: root}}
	if n, _ := x.Node(ids[last]); len(n.Keys) > 1 || last == 0 {
		return acts
	}
	at := last - 1
	for at >= 0 {
		if n, _ := x.Node(ids[at]); len(n.Kids) > 1 {
			break
		}
		at--
	}
	gone := ids[at+1:]
	if at < 0 {
		root, gone = ids[last], ids[:last]
		acts = append(acts, act{root: root})
	} else {
		acts = append(acts, act{set: ids[at], root: root})
		if n, _ := x.Node(ids[at]); at == 0 && len(n.Kids) == 2 {
			for _, kid := range n.Kids {
				if kid != ids[1] {
					root = kid
				}
			}
			acts, gone = append(acts, act{root: root}), ids
		}
	}
	for _, id := range gone {
		acts = append(acts, act{root: root, gone: id})
	}
	return acts
}

// P15.2, P15.4: the steps of a Take, and that it comes to what Delete does alone.
func TestTake(t *testing.T) {
	r := rand.New(rand.NewSource(4))
	long := 0
	for range 2500 {
		x, l := grown(t, r, 3), latch.New()
		keys := x.Keys()
		if len(keys) == 0 {
			continue
		}
		key := keys[r.Intn(len(keys))]
		alone := x.Copy()
		alone.Delete(key)
		ids, _, _ := way(x, key)
		want := taken(x, ids)
		c := crab.New(fork.Delete, key)
		arrive(t, c, x, l, 1)
		held := l.Held(1)
		for k, a := range want {
			before := nodes(x)
			done := c.Take(x)
			set, made, gone := diff(before, nodes(x))
			var wantSet, wantGone []int
			if a.set > 0 {
				wantSet = []int{a.set}
			}
			if a.gone > 0 {
				wantGone = []int{a.gone}
			}
			if len(made) != 0 || !slices.Equal(set, wantSet) || !slices.Equal(gone, wantGone) || x.Root() != a.root || done != (k == len(want)-1) {
				t.Fatalf("the step %d of %v, of %v: set %v, gone %v, root %d, done %v", k, want, before, set, gone, x.Root(), done)
			}
			if c.Loose(l, 1); !slices.Equal(l.Held(1), held) {
				t.Fatal("Loose behind a Take's beginning")
			}
		}
		if len(want) > 3 {
			long++
		}
		if told(x) != told(alone) || !x.Legal() {
			t.Fatalf("%q: %v, alone %v", key, told(x), told(alone))
		}
		if !c.Take(x) || told(x) != told(alone) || !slices.Equal(l.Held(1), held) {
			t.Fatal("once more")
		}
		c.Leave(l, 1)
		if l.All() != 0 {
			t.Fatal("Leave:", l.Held(1))
		}
	}
	if long < 20 {
		t.Error("too few long ones:", long)
	}
}

// P15.2: without any node above that has more than one kid the leaf is the root.
func TestLastLeaf(t *testing.T) {
	x := make1(t, 3, "k")
	for range 3 {
		id := x.Make(fork.Node{Kids: []int{x.Root()}})
		x.SetRoot(id)
	}
	if !x.Legal() || x.Levels() != 4 {
		t.Fatal(told(x))
	}
	alone, ids, l := x.Copy(), x.Nodes(), latch.New()
	alone.Delete("k")
	c := crab.New(fork.Delete, "k")
	arrive(t, c, x, l, 2)
	holds(t, c, l, 2, true)
	want := taken(x, c.Path())
	if len(want) != 5 {
		t.Fatal(want)
	}
	for k := range want {
		if done := c.Take(x); done != (k == 4) {
			t.Fatal(k, done)
		}
		if n, _ := x.Node(1); k == 0 && (len(n.Keys) != 0 || x.Root() != 4) || k > 0 && x.Root() != 1 {
			t.Fatal(k, told(x))
		}
		if k > 1 && len(x.Nodes()) != len(ids)-k+1 {
			t.Fatal(k, told(x))
		}
	}
	if told(x) != told(alone) || len(x.Nodes()) != 1 {
		t.Error(told(x))
	}
}

// P15.2: where Put, and Take, do nothing, and say that it is done.
func TestNothingToDo(t *testing.T) {
	x, l := make1(t, 3, "b", "d", "f", "h"), latch.New()
	was := told(x)
	for mode := range uint8(4) {
		for _, key := range []string{"b", "c"} {
			c := crab.New(mode, key)
			for n := 0; !c.Step(x, l, 1); n++ {
				if !c.Put(x, 5) || !c.Take(x) || told(x) != was {
					t.Fatal("it has not arrived")
				}
				c.Loose(l, 1)
				if len(l.Held(1)) == 0 || n > 9 {
					t.Fatal("Loose of one that has not arrived; or it never does")
				}
			}
			if mode != fork.Insert || key == "b" {
				if !c.Put(x, 5) || told(x) != was {
					t.Errorf("Put of %q, of the mode %d: %v", key, mode, told(x))
				}
			}
			if mode != fork.Delete || key == "c" {
				if !c.Take(x) || told(x) != was {
					t.Errorf("Take of %q, of the mode %d: %v", key, mode, told(x))
				}
			}
			c.Loose(l, 1)
			if len(l.Held(1)) != 1 {
				t.Error("nothing had begun, but Loose does nothing")
			}
			c.Leave(l, 1)
		}
	}
}

// P15.1: what is no node of the tree is not tried.
func TestNoNode(t *testing.T) {
	x, l := make1(t, 3, "b", "d", "f", "h"), latch.New()
	root, _ := x.Node(x.Root())
	c := crab.New(fork.Look, "h")
	c.Step(x, l, 1)
	c.Step(x, l, 1)
	x.Gone(root.Kids[1])
	for range 3 {
		if c.Step(x, l, 1) || !slices.Equal(l.Held(1), []latch.Name{node(x.Root())}) {
			t.Fatal("no such kid:", l.Held(1))
		}
	}
	old := x.Root()
	x.Gone(old)
	if c.Step(x, l, 1) || len(l.Held(1)) != 1 {
		t.Fatal("it holds what is no node any more")
	}
	c.Leave(l, 1)
	d := crab.New(fork.Look, "h")
	for range 3 {
		if d.Step(x, l, 2) {
			t.Fatal("no root")
		}
	}
	if !slices.Equal(l.Held(2), []latch.Name{word()}) {
		t.Fatal(l.Held(2))
	}
	d.Leave(l, 2)
	y := make1(t, 3, "b")
	e := crab.New(fork.Insert, "c")
	arrive(t, e, y, l, 3)
	y.Set(1, fork.Node{Kids: []int{7}})
	if _, is := e.Row(y); is {
		t.Error("what it holds is no leaf")
	}
	if _, _, is := e.Least(y); is {
		t.Error("what it holds is no leaf")
	}
}

// worker is a descent of a task, and what it is to do at its end.
type worker struct {
	c             *crab.Crab
	mode          uint8
	key           string
	arrived, acts bool
}

// P15.3, P15.5 to P15.7: whatever descents go on by turns.
func TestAmongOthers(t *testing.T) {
	for seed := range 60 {
		r := rand.New(rand.NewSource(int64(seed)))
		fan := 3 + r.Intn(2)
		x, l := grown(t, r, fan), latch.New()
		has := map[string]int{}
		for _, key := range x.Keys() {
			has[key] = 1
		}
		few := letters[:8+r.Intn(40)]
		workers := make([]*worker, 2+r.Intn(5))
		ended := 0
		for turn := 0; turn < 800; turn++ {
			task := r.Intn(len(workers))
			if workers[task] == nil {
				mode, key := uint8(r.Intn(3)), few[r.Intn(len(few))]
				workers[task] = &worker{c: crab.New(mode, key), mode: mode, key: key}
			}
			if work(t, workers[task], x, l, task, has) {
				workers[task] = nil
				ended++
				if len(l.Held(task)) != 0 {
					t.Fatal("behind Leave it holds", l.Held(task))
				}
			}
			check(t, workers, x, l, has)
		}
		if ended < 20 {
			t.Fatal("too few came to an end:", ended)
		}
	}
}

// work has a worker do one step; whether it has left.
func work(t *testing.T, w *worker, x *tree.Tree, l *latch.Latches, task int, has map[string]int) bool {
	t.Helper()
	if !w.arrived {
		if w.arrived = w.c.Step(x, l, task); w.arrived {
			if _, is := w.c.Row(x); is != (has[w.key] > 0) {
				t.Fatalf("it has %q: %v", w.key, is)
			}
			if w.acts = w.mode == fork.Insert && has[w.key] == 0 || w.mode == fork.Delete && has[w.key] > 0; w.acts {
				has[w.key] ^= 1
			} else if w.mode == fork.Look {
				w.c.Loose(l, task)
			}
		}
		return false
	}
	if w.acts {
		if w.mode == fork.Insert {
			w.acts = !w.c.Put(x, 9)
		} else {
			w.acts = !w.c.Take(x)
		}
		return false
	}
	w.c.Leave(l, task)
	return true
}

// check tells whether the tree is what it is to be, and whether some descent goes on.
func check(t *testing.T, workers []*worker, x *tree.Tree, l *latch.Latches, has map[string]int) {
	t.Helper()
	midst, under, goes := false, 0, false
	for task, w := range workers {
		if w == nil {
			continue
		}
		under++
		midst = midst || w.acts
		held := l.Held(task)
		want := len(w.c.Path())
		if len(held) > 0 && held[0] == word() {
			want++
		}
		if len(held) != want {
			t.Fatalf("it holds %v, its path is %v", held, w.c.Path())
		}
		if w.mode == fork.Look && len(held) > 1 {
			t.Fatal("to look it holds", held)
		}
		again := l.Copy()
		if w.arrived {
			goes = true
		} else if w.c.Copy().Step(x.Copy(), again, task); !slices.Equal(again.Held(task), held) {
			goes = true
		}
	}
	if under > 0 && !goes {
		t.Fatal("all are held up")
	}
	if midst {
		return
	}
	if !x.Legal() {
		t.Fatal("not legal:", told(x))
	}
	var keys []string
	for key, n := range has {
		if n > 0 {
			keys = append(keys, key)
		}
	}
	slices.Sort(keys)
	if !slices.Equal(x.Keys(), keys) {
		t.Fatalf("the keys %q, not %q", x.Keys(), keys)
	}
	for _, w := range workers {
		if w == nil || !w.arrived || len(w.c.Path()) == 0 || w.mode == fork.Insert {
			continue
		}
		ids := w.c.Path()
		n, _ := x.Node(ids[len(ids)-1])
		fence, fenced := w.c.Fence()
		for _, key := range keys {
			if key >= w.key && (!fenced || key < fence) && !slices.Contains(n.Keys, key) && w.mode == fork.Look {
				t.Fatalf("%q is between %q and %q, and not in %v", key, w.key, fence, n)
			}
		}
	}
}

// P15.2: a copy goes its own way, also in the midst of a Put, and of a Take.
func TestCopies(t *testing.T) {
	r := rand.New(rand.NewSource(5))
	for range 300 {
		x, l := grown(t, r, 3), latch.New()
		key := letters[r.Intn(len(letters))]
		_, has := x.Find(key)
		c := crab.New(fork.Insert, key)
		act := func(c *crab.Crab, x *tree.Tree) bool { return c.Put(x, 5) }
		if has {
			c = crab.New(fork.Delete, key)
			act = func(c *crab.Crab, x *tree.Tree) bool { return c.Take(x) }
		}
		before := r.Intn(8)
		for range before {
			if c.Step(x, l, 1) {
				act(c, x)
			}
		}
		d, y, m := c.Copy(), x.Copy(), l.Copy()
		was, path, held := told(x), c.Path(), l.Held(1)
		if !turns.Till(func() bool { return d.Step(y, m, 1) }) {
			t.Fatal("it does not end")
		}
		if !turns.Till(func() bool { return act(d, y) }) {
			t.Fatal("it does not end")
		}
		d.Leave(m, 1)
		if told(x) != was || !slices.Equal(c.Path(), path) || !slices.Equal(l.Held(1), held) {
			t.Fatal("what is done to a copy is seen")
		}
		if !turns.Till(func() bool { return c.Step(x, l, 1) }) {
			t.Fatal("it does not end")
		}
		if !turns.Till(func() bool { return act(c, x) }) {
			t.Fatal("it does not end")
		}
		if told(x) != told(y) {
			t.Fatal("the copy came to something else")
		}
		if p := c.Path(); len(p) > 0 {
			p[0] = -5
			if c.Path()[0] == -5 {
				t.Fatal("what was told is kept")
			}
		}
	}
}

// P15.2: copies that hold many nodes go down to unlike ones.
func TestCopiesGoDown(t *testing.T) {
	for deep := 1; deep < 9; deep++ {
		x, l := make1(t, 3), latch.New()
		full := func(kid int) fork.Node {
			return fork.Node{Keys: []string{"b", "c", "d"}, Kids: []int{kid, 50, 51, 52}}
		}
		for id := 1; id < 10; id++ { // each one's first kid is the next one; all are full
			x.Set(id, full(id+1))
			x.Make(full(id + 2))
		}
		c := crab.New(fork.Insert, "a")
		for range 1 + deep {
			c.Step(x, l, 1)
		}
		d, y, m := c.Copy(), x.Copy(), l.Copy()
		other := y.Make(full(60))
		y.Set(deep, full(other))
		c.Step(x, l, 1)
		d.Step(y, m, 1)
		a, b := c.Path(), d.Path()
		if len(a) != deep+1 || len(b) != deep+1 || a[deep] != deep+1 || b[deep] != other || !slices.Equal(a[:deep], b[:deep]) {
			t.Fatalf("%v, %v, behind %d", a, b, deep)
		}
	}
}

// R1: of nil.
func TestNil(t *testing.T) {
	x, l := make1(t, 3, "a"), latch.New()
	var c *crab.Crab
	c.Loose(l, 1)
	c.Leave(l, 1)
	if c.Step(x, l, 1) || !c.Put(x, 1) || !c.Take(x) || len(c.Path()) != 0 || c.Copy() != nil {
		t.Error("of nil")
	}
	if s, is := c.Fence(); s != "" || is {
		t.Error("Fence")
	}
	if row, is := c.Row(x); row != 0 || is {
		t.Error("Row")
	}
	if s, row, is := c.Least(x); s != "" || row != 0 || is {
		t.Error("Least")
	}
	d := crab.New(fork.Insert, "b")
	if d.Step(nil, l, 1) || d.Step(x, nil, 1) || l.All() != 0 {
		t.Error("of a nil tree, of nil latches")
	}
	arrive(t, d, x, l, 1)
	d.Loose(nil, 1)
	d.Leave(nil, 1)
	if !d.Put(nil, 1) || d.Step(nil, l, 1) || d.Step(x, nil, 1) || len(d.Path()) != 1 || l.All() != 1 {
		t.Error("of a nil tree, of nil latches")
	}
	if row, is := d.Row(nil); row != 0 || is {
		t.Error("Row")
	}
	if s, row, is := d.Least(nil); s != "" || row != 0 || is {
		t.Error("Least")
	}
	if !d.Step(x, l, 1) || d.Put(x, 1) != true || !slices.Equal(x.Keys(), []string{"a", "b"}) {
		t.Error("behind that:", x.Keys())
	}
}

func TestExamples(t *testing.T) {
	x, l := make1(t, 3, "b", "d", "f"), latch.New()
	c := crab.New(fork.Insert, "c")
	if c.Step(x, l, 1) || !c.Step(x, l, 1) || !slices.Equal(c.Path(), []int{1}) {
		t.Error("it has arrived")
	}
	if !slices.Equal(l.Held(1), []latch.Name{{Kind: 1}, {Kind: 2, ID: 1}}) {
		t.Error(l.Held(1))
	}
	if c.Put(x, 9) {
		t.Error("done")
	}
	if n, _ := x.Node(1); !slices.Equal(n.Keys, []string{"b", "c"}) || x.Root() != 1 {
		t.Error(n)
	}
	if n, _ := x.Node(2); !slices.Equal(n.Keys, []string{"d", "f"}) {
		t.Error(n)
	}
	if !c.Put(x, 9) || x.Root() != 3 {
		t.Error("not done")
	}
	if n, _ := x.Node(3); !fork.Same(n, fork.Node{Keys: []string{"d"}, Kids: []int{1, 2}}) {
		t.Error(n)
	}
	c.Leave(l, 1)
	if l.All() != 0 {
		t.Error(l.All())
	}
	d := crab.New(fork.Look, "e")
	for k, want := range [][]latch.Name{{{Kind: 1}}, {{Kind: 2, ID: 3}}, {{Kind: 2, ID: 2}}} {
		if got := d.Step(x, l, 1); got != (k == 2) || !slices.Equal(l.Held(1), want) {
			t.Error(k, got, l.Held(1))
		}
	}
	if key, _, is := d.Least(x); key != "f" || !is {
		t.Error(key)
	}
	if _, is := d.Fence(); is {
		t.Error("Fence")
	}
	d.Leave(l, 1)
	e := crab.New(fork.Look, "c")
	arrive(t, e, x, l, 1)
	if s, is := e.Fence(); s != "d" || !is {
		t.Error(s, is)
	}
	if crab.Word != 1 || crab.Node != 2 || crab.Anchor != 3 {
		t.Error("the kinds' numbers")
	}
}
