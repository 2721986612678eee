package tree_test

import (
	"math"
	"math/rand"
	"slices"
	"testing"

	"ferryman/api"
	"ferryman/fork"
	"ferryman/tree"
)

func make1(t *testing.T, fan int) *tree.Tree {
	t.Helper()
	x, e := tree.New(fan)
	if e != api.OK || x == nil {
		t.Fatalf("New(%d): %v", fan, e)
	}
	return x
}

func leaf(keys ...string) fork.Node {
	n := fork.Node{Leaf: true, Keys: keys}
	for k := range keys {
		n.Rows = append(n.Rows, api.Handle(100+k))
	}
	return n
}

func inner(kids []int, keys ...string) fork.Node { return fork.Node{Keys: keys, Kids: kids} }

// node is one of a directory by the words of S5, and of this chapter.
type node struct {
	id   int
	keys []string
	rows []api.Handle
	kids []*node // of a leaf none
	leaf bool
}

type world struct {
	fan, last int
	root      *node
	has       map[string]api.Handle
}

func (o *world) number(n *node) *node {
	o.last++
	n.id = o.last
	return n
}

func newWorld(fan int) *world {
	o := &world{fan: fan, has: map[string]api.Handle{}}
	o.root = o.number(&node{leaf: true})
	return o
}

// insert puts a key below n; what goes up, if n was split.
func (o *world) insert(n *node, key string, row api.Handle) (string, *node) {
	at := 0
	for at < len(n.keys) && n.keys[at] <= key {
		at++
	}
	if n.leaf {
		n.keys, n.rows = slices.Insert(n.keys, at, key), slices.Insert(n.rows, at, row)
	} else if up, other := o.insert(n.kids[at], key, row); other != nil {
		n.keys, n.kids = slices.Insert(n.keys, at, up), slices.Insert(n.kids, at+1, other)
	}
	if len(n.keys) <= o.fan {
		return "", nil
	}
	half := (len(n.keys) + 1) / 2
	up, other := n.keys[half], &node{leaf: n.leaf}
	if n.leaf {
		other.keys, other.rows = slices.Clone(n.keys[half:]), slices.Clone(n.rows[half:])
		n.rows = n.rows[:half]
	} else {
		other.keys, other.kids = slices.Clone(n.keys[half+1:]), slices.Clone(n.kids[half+1:])
		n.kids = n.kids[:half+1]
	}
	n.keys = n.keys[:half]
	return up, o.number(other)
}

func (o *world) put(key string, row api.Handle) {
	o.has[key] = row
	if up, other := o.insert(o.root, key, row); other != nil {
		o.root = o.number(&node{keys: []string{up}, kids: []*node{o.root, other}})
	}
}

// remove takes a key out below n; whether nothing is left of n. The last leaf is told, for where it is to stay.
func (o *world) remove(n *node, key string) (bool, *node) {
	at := 0
	for at < len(n.keys) && n.keys[at] <= key {
		at++
	}
	if n.leaf {
		n.keys, n.rows = slices.Delete(n.keys, at-1, at), slices.Delete(n.rows, at-1, at)
		return len(n.keys) == 0, n
	}
	empty, last := o.remove(n.kids[at], key)
	if !empty || len(n.kids) == 1 {
		return empty, last
	}
	n.kids = slices.Delete(n.kids, at, at+1)
	gone := max(at-1, 0)
	n.keys = slices.Delete(n.keys, gone, gone+1)
	if n == o.root && len(n.kids) == 1 {
		o.root = n.kids[0]
	}
	return false, last
}

func (o *world) take(key string) {
	delete(o.has, key)
	if empty, last := o.remove(o.root, key); empty {
		o.root = last
	}
}

// nodes tells all nodes by their numbers.
func (o *world) nodes() map[int]fork.Node {
	out := map[int]fork.Node{}
	var walk func(n *node)
	walk = func(n *node) {
		f := fork.Node{Leaf: n.leaf, Keys: n.keys, Rows: n.rows}
		for _, kid := range n.kids {
			f.Kids = append(f.Kids, kid.id)
			walk(kid)
		}
		out[n.id] = f
	}
	walk(o.root)
	return out
}

func (o *world) levels() int {
	k := 1
	for n := o.root; !n.leaf; n = n.kids[0] {
		k++
	}
	return k
}

func (o *world) check(t *testing.T, x *tree.Tree) {
	t.Helper()
	if !x.Legal() || x.Root() != o.root.id || x.Fan() != o.fan || x.Levels() != o.levels() {
		t.Fatalf("legal %v, root %d, fan %d, levels %d, not %d, %d", x.Legal(), x.Root(), x.Fan(), x.Levels(), o.root.id, o.levels())
	}
	nodes := o.nodes()
	var ids []int
	for id, want := range nodes {
		ids = append(ids, id)
		if n, is := x.Node(id); !is || !fork.Same(n, want) {
			t.Fatalf("the node %d: %v, %v, not %v", id, n, is, want)
		}
	}
	again := x.Copy()
	for id, n := range nodes { // what is put in its own place changes nothing
		if e := again.Set(id, n); e != api.OK || !again.Legal() {
			t.Fatalf("the node %d once more: %v, legal %v", id, e, again.Legal())
		}
	}
	slices.Sort(ids)
	if got := x.Nodes(); !slices.Equal(got, ids) {
		t.Fatalf("Nodes: %v, not %v", got, ids)
	}
	var keys []string
	for key := range o.has {
		keys = append(keys, key)
	}
	slices.Sort(keys)
	if got := x.Keys(); !slices.Equal(got, keys) {
		t.Fatalf("Keys: %q, not %q", got, keys)
	}
	for _, from := range append([]string{"", "zzz", "\xff"}, some...) {
		row, is := x.Find(from)
		if want, has := o.has[from]; row != want || is != has {
			t.Fatalf("Find(%q): %d, %v", from, row, is)
		}
		at, _ := slices.BinarySearch(keys, from)
		key, row, is := x.Next(from)
		if at == len(keys) && (key != "" || row != 0 || is) || at < len(keys) && (key != keys[at] || row != o.has[key] || !is) {
			t.Fatalf("Next(%q): %q, %d, %v, of %q", from, key, row, is, keys)
		}
	}
}

// some are keys, as many as a tree of a few levels needs.
var some = func() []string {
	var l []string
	for _, a := range []string{"", "a", "b", "m", "\xfe"} {
		for _, b := range []string{"", "\x00", "a", "k", "z"} {
			for _, c := range []string{"", "p", "q"} {
				if s := a + b + c; !slices.Contains(l, s) {
					l = append(l, s)
				}
			}
		}
	}
	return l
}()

// P14.2, P14.4 to P14.7: whatever is inserted, and deleted.
func TestWhatever(t *testing.T) {
	for seed := range 24 {
		r := rand.New(rand.NewSource(int64(seed)))
		fan := 3 + seed%6
		x, o := make1(t, fan), newWorld(fan)
		most, told := 0, 0
		few := some[:5+r.Intn(len(some)-5)]
		for step := range 500 {
			key := few[r.Intn(len(few))]
			_, has := o.has[key]
			if grow := (step/100)%2 == 0; r.Intn(5) == 0 != grow {
				want := api.OK
				if has {
					want = api.ErrTwice
				} else {
					o.put(key, api.Handle(step+1))
				}
				if e := x.Insert(key, api.Handle(step+1)); e != want {
					t.Fatalf("Insert(%q): %v, not %v", key, e, want)
				}
			} else {
				want := api.OK
				if !has {
					want = api.ErrNone
				} else {
					o.take(key)
				}
				if e := x.Delete(key); e != want {
					t.Fatalf("Delete(%q): %v, not %v", key, e, want)
				}
			}
			most = max(most, len(o.has))
			if n := x.Levels(); most > 0 && n > (most-1)/fan+1 {
				t.Fatalf("%d levels of %d keys, fan %d", n, most, fan)
			}
			for _, id := range x.Nodes() {
				told = max(told, id)
			}
			if told > o.last {
				t.Fatalf("the number %d, of %d that were told", told, o.last)
			}
			if step%7 == 0 || step > 480 {
				o.check(t, x)
			}
		}
		for _, key := range few {
			if _, has := o.has[key]; has {
				o.take(key)
				x.Delete(key)
			}
		}
		o.check(t, x)
		if n, is := x.Node(x.Root()); !is || !n.Leaf || len(n.Keys) != 0 || len(x.Nodes()) != 1 {
			t.Fatal("of no keys:", n)
		}
	}
}

// P14.1: of a new tree, and what its fan may be.
func TestNew(t *testing.T) {
	for _, fan := range []int{math.MinInt, -1, 0, 1, 2, api.MaxFan + 1, math.MaxInt} {
		if x, e := tree.New(fan); x != nil || e != api.ErrArg {
			t.Errorf("New(%d): %v, %v", fan, x, e)
		}
	}
	for fan := 3; fan <= api.MaxFan; fan++ {
		x := make1(t, fan)
		newWorld(fan).check(t, x)
		if x.Fan() != fan || x.Root() != 1 || x.Levels() != 1 {
			t.Error(fan, x.Fan(), x.Root(), x.Levels())
		}
	}
}

// P14.1: nodes by numbers.
func TestNodes(t *testing.T) {
	x := make1(t, 3)
	for _, id := range []int{math.MinInt, -1, 0, 2, math.MaxInt} {
		if n, is := x.Node(id); is || !fork.Same(n, fork.Node{}) {
			t.Error(id, n, is)
		}
		if a, b, c := x.Set(id, leaf("b", "a")), x.Gone(id), x.SetRoot(id); a != api.ErrNone || b != api.ErrNone || c != api.ErrNone {
			t.Error(id, a, b, c)
		}
	}
	wrong := []fork.Node{{}, leaf("b", "a"), leaf("a", "b", "c", "d"), inner([]int{1, 2}), inner([]int{1, 2, 3, 4, 5}, "a", "b", "c", "d"), {Leaf: true, Kids: []int{1}}}
	for _, n := range wrong {
		if e := x.Set(1, n); e != api.ErrForm {
			t.Error(n, e)
		}
		if id := x.Make(n); id != 0 {
			t.Error(n, id)
		}
	}
	if !x.Legal() || !slices.Equal(x.Nodes(), []int{1}) {
		t.Error("what was refused changed something")
	}
	if a, b := x.Make(leaf("a", "b", "c")), x.Make(inner([]int{7, -2})); a != 2 || b != 0 {
		t.Error(a, b)
	}
	if a := x.Make(inner([]int{7, -2}, "k")); a != 3 {
		t.Error(a)
	}
	if e := x.Gone(3); e != api.OK || x.Gone(3) != api.ErrNone || x.Set(3, leaf()) != api.ErrNone || x.SetRoot(3) != api.ErrNone {
		t.Error(e)
	}
	if a := x.Make(leaf()); a != 4 {
		t.Error("a number was told twice:", a)
	}
	if e := x.Set(1, inner([]int{2, 4}, "c")); e != api.OK {
		t.Error(e)
	}
	if n, is := x.Node(1); !is || !fork.Same(n, inner([]int{2, 4}, "c")) || x.Root() != 1 {
		t.Error(n, is)
	}
	if e := x.SetRoot(2); e != api.OK || x.Root() != 2 {
		t.Error(e, x.Root())
	}
	if e := x.Gone(2); e != api.OK || x.Legal() || !slices.Equal(x.Nodes(), []int{1, 4}) {
		t.Error("without its root:", e, x.Nodes())
	}
}

// grown is a tree of the nodes that are told, from 1 on, and a root.
func grown(t *testing.T, root int, nodes ...fork.Node) *tree.Tree {
	t.Helper()
	x := make1(t, 3)
	for k, n := range nodes {
		if k > 0 {
			if id := x.Make(n); id != k+1 {
				t.Fatal(n, id)
			}
		} else if e := x.Set(1, n); e != api.OK {
			t.Fatal(n, e)
		}
	}
	if e := x.SetRoot(root); e != api.OK {
		t.Fatal(e)
	}
	return x
}

// P14.2, P14.3: trees that are not legal.
func TestNotLegal(t *testing.T) {
	a, c := leaf("a", "b"), leaf("c", "d")
	for k, x := range []*tree.Tree{
		grown(t, 3, a, c, inner([]int{1}, []string{}...)), // one is not come to
		grown(t, 1, a, c),                                                                                                           // likewise
		grown(t, 3, a, c, inner([]int{1, 1}, "c")),                                                                                  // one is come to twice, one not
		grown(t, 3, a, c, inner([]int{1, 2, 1}, "c", "e")),                                                                          // one is come to twice
		grown(t, 3, a, c, inner([]int{1, 9}, "c")),                                                                                  // no node
		grown(t, 3, a, c, inner([]int{1, 2, 9}, "c", "e")),                                                                          // likewise
		grown(t, 3, a, c, inner([]int{1, 2, -1}, "c", "e")),                                                                         // likewise
		grown(t, 3, a, c, inner([]int{1, 2}, "b")),                                                                                  // a key that is not below the one behind it
		grown(t, 3, a, c, inner([]int{1, 2}, "ca")),                                                                                 // one that is below the one ahead
		grown(t, 3, a, c, inner([]int{2, 1}, "c")),                                                                                  // both
		grown(t, 3, a, leaf(), inner([]int{1, 2}, "c")),                                                                             // a leaf without keys
		grown(t, 3, leaf(), c, inner([]int{1, 2}, "c")),                                                                             // likewise
		grown(t, 2, leaf(), inner([]int{1})),                                                                                        // likewise, of one kid
		grown(t, 4, a, c, inner([]int{1}), inner([]int{3, 2}, "c")),                                                                 // leaves of unlike levels
		grown(t, 4, a, c, inner([]int{2}), inner([]int{1, 3}, "c")),                                                                 // likewise
		grown(t, 1, inner([]int{1})),                                                                                                // round and round
		grown(t, 1, inner([]int{2}), inner([]int{1})),                                                                               // likewise
		grown(t, 5, a, c, inner([]int{1}), inner([]int{2, 5}, "e"), inner([]int{3, 4}, "c")),                                        // likewise
		grown(t, 5, a, leaf("c", "f"), inner([]int{1, 2}, "c"), leaf("g"), inner([]int{3, 6}, "e"), inner([]int{4})),                // a key that a key further up is not above
		grown(t, 7, a, c, leaf("e"), leaf("g"), inner([]int{1, 2}, "c"), inner([]int{3, 4}, "d"), inner([]int{5, 6}, "e")),          // an inner one's key that is below the one ahead, further up
		grown(t, 7, a, c, leaf("e"), leaf("g"), inner([]int{1, 2}, "e"), inner([]int{3, 4}, "g"), inner([]int{5, 6}, "e")),          // one that is not below the one behind, further up
		grown(t, 7, a, leaf("c"), leaf("cc"), leaf("g"), inner([]int{1, 2}, "c"), inner([]int{3, 4}, "g"), inner([]int{5, 6}, "e")), // a key below the one ahead, further up
		grown(t, 7, leaf("A"), leaf("f"), leaf("g"), leaf("h"), inner([]int{1, 2}, "c"), inner([]int{3, 4}, "h"), inner([]int{5, 6}, []string{"f"}...)), // a key that is not below the one behind, further up
	} {
		before := x.Nodes()
		if x.Legal() || x.Levels() != 0 || len(x.Keys()) != 0 {
			t.Errorf("%d: legal %v, levels %d, keys %q", k, x.Legal(), x.Levels(), x.Keys())
		}
		for _, key := range []string{"", "a", "c", "x"} {
			if row, is := x.Find(key); row != 0 || is {
				t.Errorf("%d: Find: %d, %v", k, row, is)
			}
			if next, row, is := x.Next(key); next != "" || row != 0 || is {
				t.Errorf("%d: Next: %q, %d, %v", k, next, row, is)
			}
			if a, b := x.Insert(key, 1), x.Delete(key); a != api.ErrForm || b != api.ErrForm {
				t.Errorf("%d: %v, %v", k, a, b)
			}
		}
		if !slices.Equal(x.Nodes(), before) {
			t.Errorf("%d: what was refused changed something", k)
		}
	}
}

// P14.2: trees that are legal, though no insert makes them so: of nodes with one kid alone.
func TestLegalOnes(t *testing.T) {
	a, c := leaf("a", "b"), leaf("c", "d")
	x := grown(t, 3, a, c, inner([]int{1, 2}, "c"))
	if !x.Legal() || x.Levels() != 2 {
		t.Fatal("two leaves")
	}
	x = grown(t, 5, a, c, inner([]int{1}), inner([]int{2}), inner([]int{3, 4}, "bb"))
	if !x.Legal() || x.Levels() != 3 || !slices.Equal(x.Keys(), []string{"a", "b", "c", "d"}) {
		t.Fatal(x.Legal(), x.Levels(), x.Keys())
	}
	if key, row, is := x.Next("b\x00"); key != "c" || row != 100 || !is {
		t.Error(key, row, is)
	}
	x.Delete("c")
	x.Delete("d")
	if !x.Legal() || x.Root() != 3 || !slices.Equal(x.Nodes(), []int{1, 3}) || x.Levels() != 2 {
		t.Error("the root is the kid that is left, though that has one alone:", x.Root(), x.Nodes())
	}
	if e := x.Insert("c", 7); e != api.OK || !x.Legal() || !slices.Equal(x.Keys(), []string{"a", "b", "c"}) {
		t.Error(e, x.Keys())
	}
	x.Delete("a")
	x.Delete("c")
	x.Delete("b")
	if n, is := x.Node(1); !x.Legal() || x.Root() != 1 || !slices.Equal(x.Nodes(), []int{1}) || !is || !fork.Same(n, leaf()) {
		t.Error("all nodes would be without kids:", x.Root(), x.Nodes())
	}
}

// P14.3: whether it is legal is told by what it is now, whatever it was.
func TestLegalNow(t *testing.T) {
	make2 := func() *tree.Tree {
		x := grown(t, 3, leaf("a"), leaf("c"), inner([]int{1, 2}, "b"))
		if !x.Legal() || x.Levels() != 2 || !slices.Equal(x.Keys(), []string{"a", "c"}) {
			t.Fatal(x.Legal(), x.Levels(), x.Keys())
		}
		return x
	}
	not := func(x *tree.Tree) {
		t.Helper()
		if _, is := x.Find("a"); is || x.Legal() || x.Levels() != 0 || x.Insert("e", 1) != api.ErrForm || x.Delete("a") != api.ErrForm {
			t.Error("it is legal no more")
		}
		if _, _, is := x.Next(""); is || len(x.Keys()) != 0 {
			t.Error("it is legal no more")
		}
	}
	x := make2()
	x.Set(1, leaf())
	not(x)
	x.Set(1, leaf("a"))
	x.Set(2, leaf("b"))
	if !x.Legal() || !slices.Equal(x.Keys(), []string{"a", "b"}) {
		t.Error("it is legal again")
	}
	x = make2()
	id := x.Make(leaf("z"))
	not(x)
	x.Gone(id)
	if !x.Legal() || x.Insert("e", 1) != api.OK {
		t.Error("it is legal again")
	}
	x = make2()
	x.Gone(2)
	not(x)
	x = make2()
	x.SetRoot(1)
	not(x)
	x.SetRoot(3)
	if !x.Legal() {
		t.Error("it is legal again")
	}
}

// R1: what is handed in, and told, shares no memory.
func TestApart(t *testing.T) {
	x := make1(t, 3)
	n := leaf("a", "b")
	x.Set(1, n)
	n.Keys[0], n.Rows[1] = "changed", 9
	if got, _ := x.Node(1); !fork.Same(got, leaf("a", "b")) {
		t.Error("what was handed in is kept:", got)
	}
	got, _ := x.Node(1)
	got.Keys[0], got.Rows[1] = "changed", 9
	if got, _ := x.Node(1); !fork.Same(got, leaf("a", "b")) {
		t.Error("what was told is kept:", got)
	}
	n = inner([]int{1, 5}, "c")
	id := x.Make(n)
	n.Kids[0], n.Keys[0] = 9, "changed"
	got, _ = x.Node(id)
	if !fork.Same(got, inner([]int{1, 5}, "c")) {
		t.Error("what was handed in is kept:", got)
	}
	got.Kids[0] = 9
	if got, _ := x.Node(id); got.Kids[0] != 1 {
		t.Error("what was told is kept:", got)
	}
	x.Nodes()[0] = 9
	if !slices.Equal(x.Nodes(), []int{1, 2}) {
		t.Error(x.Nodes())
	}
}

// P14.8: what is done to the one is not seen by the other.
func TestCopies(t *testing.T) {
	for turn := range 2 {
		x, o := make1(t, 3), newWorld(3)
		for k, key := range some[:20] {
			x.Insert(key, api.Handle(k))
			o.put(key, api.Handle(k))
		}
		y := x.Copy()
		if turn == 1 {
			x, y = y, x
		}
		for _, key := range some[20:40] {
			x.Insert(key, 7)
		}
		for _, key := range some[:12] {
			x.Delete(key)
		}
		o.check(t, y)
		x.Set(x.Root(), leaf())
		x.Make(leaf())
		x.Gone(y.Root())
		x.SetRoot(x.Nodes()[0])
		o.check(t, y)
		y.Insert("zz", 8)
		o.put("zz", 8)
		o.check(t, y)
	}
}

// R1: of nil.
func TestNil(t *testing.T) {
	var x *tree.Tree
	if n, is := x.Node(1); is || !fork.Same(n, fork.Node{}) {
		t.Error(n, is)
	}
	if x.Set(1, fork.Node{}) != api.ErrNil || x.Gone(1) != api.ErrNil || x.SetRoot(1) != api.ErrNil || x.Insert("a", 1) != api.ErrNil || x.Delete("a") != api.ErrNil {
		t.Error("Set, Gone, SetRoot, Insert, Delete")
	}
	if x.Make(leaf()) != 0 || x.Fan() != 0 || x.Root() != 0 || x.Levels() != 0 || x.Legal() || len(x.Keys()) != 0 || len(x.Nodes()) != 0 || x.Copy() != nil {
		t.Error("of nil")
	}
	if row, is := x.Find("a"); row != 0 || is {
		t.Error(row, is)
	}
	if key, row, is := x.Next(""); key != "" || row != 0 || is {
		t.Error(key, row, is)
	}
}

func TestExamples(t *testing.T) {
	x := make1(t, 3)
	for k, key := range []string{"a", "b", "c"} {
		x.Insert(key, api.Handle(k))
	}
	if !slices.Equal(x.Nodes(), []int{1}) || x.Levels() != 1 {
		t.Error(x.Nodes())
	}
	x.Insert("d", 3)
	for id, want := range []fork.Node{1: {Leaf: true, Keys: []string{"a", "b"}, Rows: []api.Handle{0, 1}}, 2: {Leaf: true, Keys: []string{"c", "d"}, Rows: []api.Handle{2, 3}}, 3: inner([]int{1, 2}, "c")} {
		if n, is := x.Node(id); id > 0 && (!is || !fork.Same(n, want)) {
			t.Error(id, n)
		}
	}
	if x.Levels() != 2 || x.Root() != 3 {
		t.Error(x.Levels(), x.Root())
	}
	if key, _, is := x.Next("bb"); key != "c" || !is {
		t.Error(key)
	}
	x.Delete("c")
	x.Delete("d")
	if !slices.Equal(x.Nodes(), []int{1}) || x.Root() != 1 {
		t.Error(x.Nodes(), x.Root())
	}
	x.Delete("a")
	x.Delete("b")
	if n, _ := x.Node(1); !fork.Same(n, leaf()) {
		t.Error(n)
	}
	if e := x.Delete("a"); e != api.ErrNone {
		t.Error(e)
	}
}
