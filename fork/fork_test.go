package fork_test

import (
	"math"
	"math/rand"
	"slices"
	"testing"

	"ferryman/api"
	"ferryman/fork"
)

var letters = []string{"", "\x00", "a", "ab", "b", "c", "d", "e", "f", "\xff"}

func leaf(keys ...string) fork.Node {
	n := fork.Node{Leaf: true, Keys: keys}
	for k := range keys {
		n.Rows = append(n.Rows, api.Handle(100+k))
	}
	return n
}

func inner(kids []int, keys ...string) fork.Node { return fork.Node{Keys: keys, Kids: kids} }

// some is a node that may be.
func some(r *rand.Rand, isLeaf bool) fork.Node {
	n := fork.Node{Leaf: isLeaf}
	for _, s := range letters {
		if r.Intn(2) == 0 {
			n.Keys = append(n.Keys, s)
		}
	}
	for range n.Keys {
		if isLeaf {
			n.Rows = append(n.Rows, api.Handle(r.Intn(9)))
		} else {
			n.Kids = append(n.Kids, r.Intn(9))
		}
	}
	if !isLeaf {
		n.Kids = append(n.Kids, r.Intn(9))
	}
	return n
}

// wrong are nodes that may not be.
func wrong() []fork.Node {
	return []fork.Node{
		{Leaf: true, Keys: []string{"b", "a"}, Rows: []api.Handle{1, 2}},
		{Leaf: true, Keys: []string{"a", "b", "b", "c"}, Rows: []api.Handle{1, 2, 3, 4}},
		{Leaf: true, Keys: []string{"a", "b", "c"}, Rows: []api.Handle{1, 2}},
		{Leaf: true, Keys: []string{"a", "b", "c"}, Rows: []api.Handle{1, 2, 3, 4}},
		{Leaf: true, Keys: []string{"a"}},
		{Leaf: true, Rows: []api.Handle{1}},
		{Leaf: true, Keys: []string{"a", "b", "c"}, Rows: []api.Handle{1, 2, 3}, Kids: []int{1, 2, 3, 4}},
		{Leaf: true, Kids: []int{1}},
		{},
		{Keys: []string{"a", "b", "c"}, Kids: []int{1, 2, 3}},
		{Keys: []string{"a", "b", "c"}, Kids: []int{1, 2, 3, 4, 5}},
		{Keys: []string{"c", "b", "a"}, Kids: []int{1, 2, 3, 4}},
		{Keys: []string{"a", "a", "b"}, Kids: []int{1, 2, 3, 4}},
		{Keys: []string{"a", "b", "c"}, Kids: []int{1, 2, 3, 4}, Rows: []api.Handle{1, 2, 3}},
		{Kids: []int{1}, Rows: []api.Handle{1}},
		{Kids: []int{1, 2}},
	}
}

func same(a, b fork.Node) bool {
	return a.Leaf == b.Leaf && slices.Equal(a.Keys, b.Keys) && slices.Equal(a.Kids, b.Kids) && slices.Equal(a.Rows, b.Rows)
}

func clone(n fork.Node) fork.Node {
	return fork.Node{Leaf: n.Leaf, Keys: slices.Clone(n.Keys), Kids: slices.Clone(n.Kids), Rows: slices.Clone(n.Rows)}
}

// scribble writes over all that stands in a node.
func scribble(n fork.Node) {
	for k := range n.Keys {
		n.Keys[k] = "scribbled"
	}
	for k := range n.Kids {
		n.Kids[k] = -77
	}
	for k := range n.Rows {
		n.Rows[k] = 7777
	}
}

func empty(n fork.Node) bool { return same(n, fork.Node{}) }

// P13.1: which nodes may be.
func TestMay(t *testing.T) {
	r := rand.New(rand.NewSource(1))
	for range 200 {
		if n := some(r, r.Intn(2) == 0); !fork.May(n) {
			t.Fatal(n)
		}
	}
	if !fork.May(inner([]int{5})) || !fork.May(leaf()) {
		t.Error("one kid without keys, a leaf without keys")
	}
	for _, n := range wrong() {
		if fork.May(n) {
			t.Error(n)
		}
	}
}

// P13.1, P13.4: places, kids, fences.
func TestPlaces(t *testing.T) {
	r := rand.New(rand.NewSource(2))
	for range 500 {
		n := some(r, r.Intn(2) == 0)
		for _, key := range letters {
			at, is := 0, false
			for at < len(n.Keys) && n.Keys[at] < key {
				at++
			}
			is = at < len(n.Keys) && n.Keys[at] == key
			if got, has := fork.Place(n, key); got != at || has != is {
				t.Fatalf("Place(%v, %q): %d, %v", n, key, got, has)
			}
			kid := 0
			for kid < len(n.Keys) && n.Keys[kid] <= key {
				kid++
			}
			if n.Leaf {
				kid = 0
			}
			if got := fork.Kid(n, key); got != kid {
				t.Fatalf("Kid(%v, %q): %d, not %d", n, key, got, kid)
			}
		}
		for _, k := range []int{math.MinInt, -1, 0, 1, 2, 3, 5, len(n.Keys) - 1, len(n.Keys), len(n.Keys) + 1, math.MaxInt} {
			want := ""
			is := !n.Leaf && k >= 0 && k < len(n.Keys)
			if is {
				want = n.Keys[k]
			}
			if got, has := fork.Fence(n, k); got != want || has != is {
				t.Fatalf("Fence(%v, %d): %q, %v", n, k, got, has)
			}
		}
	}
}

// P13.1, P13.2: nodes that may not be; errors in their row.
func TestErrors(t *testing.T) {
	check := func(what string, got fork.Node, e, want api.Errno) {
		t.Helper()
		if e != want || !empty(got) {
			t.Errorf("%s: %v, %v, not %v", what, got, e, want)
		}
	}
	for _, n := range wrong() {
		for _, key := range []string{"a", "b", "zz"} {
			if at, is := fork.Place(n, key); at != 0 || is {
				t.Error("Place", n, at, is)
			}
			if fork.Kid(n, key) != 0 {
				t.Error("Kid", n)
			}
			got, e := fork.Put(n, key, 1)
			check("Put", got, e, api.ErrForm)
			got, e = fork.Take(n, key)
			check("Take", got, e, api.ErrForm)
			got, e = fork.Graft(n, key, 1)
			check("Graft", got, e, api.ErrForm)
		}
		if s, is := fork.Fence(n, 0); s != "" || is {
			t.Error("Fence", n, s, is)
		}
		got, e := fork.Cut(n, 0)
		check("Cut", got, e, api.ErrForm)
		got, e = fork.Cut(n, 99)
		check("Cut", got, e, api.ErrForm)
		low, high, up, e := fork.Split(n)
		check("Split", low, e, api.ErrForm)
		check("Split", high, e, api.ErrForm)
		if up != "" {
			t.Error("Split", up)
		}
	}
	l, i := leaf("b", "d"), inner([]int{1, 2, 3}, "b", "d")
	got, e := fork.Put(i, "b", 1)
	check("Put into an inner one", got, e, api.ErrForm)
	got, e = fork.Take(i, "b")
	check("Take of an inner one", got, e, api.ErrForm)
	got, e = fork.Graft(l, "b", 1)
	check("Graft into a leaf", got, e, api.ErrForm)
	got, e = fork.Cut(l, 0)
	check("Cut of a leaf", got, e, api.ErrForm)
	got, e = fork.Put(l, "b", 1)
	check("Put twice", got, e, api.ErrTwice)
	got, e = fork.Take(l, "c")
	check("Take of none", got, e, api.ErrNone)
	got, e = fork.Graft(i, "d", 1)
	check("Graft twice", got, e, api.ErrTwice)
	for _, kid := range []int{math.MinInt, -1, 3, math.MaxInt} {
		got, e = fork.Cut(i, kid)
		check("Cut of none", got, e, api.ErrNone)
	}
	for _, kid := range []int{0, 1, -1} {
		got, e = fork.Cut(inner([]int{4}), kid)
		check("Cut of the only one", got, e, api.ErrForm)
	}
	for _, n := range []fork.Node{leaf(), leaf("a"), leaf("a", "b"), inner([]int{1}), inner([]int{1, 2}, "a"), i} {
		low, high, up, e := fork.Split(n)
		if e != api.ErrForm || !empty(low) || !empty(high) || up != "" {
			t.Error("Split of fewer than 3:", low, high, up, e)
		}
	}
}

// P13.2, P13.5: there, and back; what is handed in stays, and shares no memory.
func TestThereAndBack(t *testing.T) {
	r := rand.New(rand.NewSource(3))
	for range 1000 {
		n := some(r, r.Intn(2) == 0)
		was, key := clone(n), letters[r.Intn(len(letters))]
		at, is := fork.Place(n, key)
		var more, back fork.Node
		var e, f api.Errno
		switch {
		case n.Leaf && is:
			row := n.Rows[at]
			more, e = fork.Take(n, key)
			back, f = fork.Put(more, key, row)
		case n.Leaf:
			more, e = fork.Put(n, key, 55)
			if k, is := fork.Place(more, key); !is || more.Rows[k] != 55 || len(more.Keys) != len(n.Keys)+1 {
				t.Fatalf("Put(%v, %q): %v", n, key, more)
			}
			back, f = fork.Take(more, key)
		case is:
			continue
		default:
			more, e = fork.Graft(n, key, 55)
			if k := fork.Kid(more, key); more.Kids[k] != 55 || k != at+1 || len(more.Keys) != len(n.Keys)+1 {
				t.Fatalf("Graft(%v, %q): %v", n, key, more)
			}
			back, f = fork.Cut(more, at+1)
		}
		if e != api.OK || f != api.OK || !fork.May(more) || !same(back, was) || !same(n, was) {
			t.Fatalf("%v, %q: %v, %v, %v, %v", was, key, more, e, back, f)
		}
		scribble(more)
		if !same(n, was) {
			t.Fatalf("%v shares memory", was)
		}
	}
}

// P13.2: which kid is cut, and which key.
func TestCut(t *testing.T) {
	r := rand.New(rand.NewSource(4))
	for range 500 {
		n := some(r, false)
		if len(n.Kids) < 2 {
			continue
		}
		was := clone(n)
		for kid := range n.Kids {
			got, e := fork.Cut(n, kid)
			gone := max(0, kid-1)
			want := clone(was)
			want.Keys = slices.Delete(want.Keys, gone, gone+1)
			want.Kids = slices.Delete(want.Kids, kid, kid+1)
			if e != api.OK || !same(got, want) || !fork.May(got) || !same(n, was) {
				t.Fatalf("Cut(%v, %d): %v, %v, not %v", n, kid, got, e, want)
			}
			scribble(got)
			if !same(n, was) {
				t.Fatalf("%v shares memory", was)
			}
		}
	}
}

// P13.2, P13.6: halves.
func TestSplit(t *testing.T) {
	r := rand.New(rand.NewSource(5))
	for range 1000 {
		n := some(r, r.Intn(2) == 0)
		if len(n.Keys) < 3 {
			continue
		}
		was := clone(n)
		low, high, up, e := fork.Split(n)
		half := (len(n.Keys) + 1) / 2
		if e != api.OK || !fork.May(low) || !fork.May(high) || low.Leaf != n.Leaf || high.Leaf != n.Leaf || len(low.Keys) != half || up != n.Keys[half] {
			t.Fatalf("Split(%v): %v, %v, %q, %v", n, low, high, up, e)
		}
		keys := slices.Clone(low.Keys)
		if !n.Leaf {
			keys = append(keys, up)
		}
		keys = append(keys, high.Keys...)
		kids, rows := append(slices.Clone(low.Kids), high.Kids...), append(slices.Clone(low.Rows), high.Rows...)
		if !slices.Equal(keys, n.Keys) || !slices.Equal(kids, n.Kids) || !slices.Equal(rows, n.Rows) {
			t.Fatalf("Split(%v): %v, %v, %q", n, low, high, up)
		}
		for _, key := range letters {
			part := low
			if key >= up {
				part = high
			}
			if !n.Leaf && part.Kids[fork.Kid(part, key)] != n.Kids[fork.Kid(n, key)] {
				t.Fatalf("the kid of %q, of %v", key, n)
			}
			if n.Leaf {
				_, was := fork.Place(n, key)
				if _, is := fork.Place(part, key); is != was {
					t.Fatalf("%q, of %v", key, n)
				}
			}
		}
		if len(low.Keys) == 0 || n.Leaf && len(high.Keys) == 0 {
			t.Fatalf("a half without keys: %v, %v", low, high)
		}
		before := clone(high)
		scribble(low)
		_, _, _ = append(low.Keys, "more"), append(low.Kids, 9), append(low.Rows, 9)
		if !same(n, was) || !same(high, before) {
			t.Fatal("they share memory")
		}
		scribble(high)
		if !same(n, was) {
			t.Fatal("they share memory")
		}
	}
}

// P13.3: what is safe.
func TestSafe(t *testing.T) {
	for keys := range 10 {
		l, i := leaf(letters[:keys]...), inner(make([]int, keys+1), letters[:keys]...)
		for fan := 3; fan <= 8; fan++ {
			for _, root := range []bool{false, true} {
				for _, n := range []fork.Node{l, i} {
					if !fork.Safe(n, fan, fork.Look, root) {
						t.Error("to look")
					}
					if got := fork.Safe(n, fan, fork.Insert, root); got != (keys < fan) {
						t.Errorf("%d keys, of %d, to insert: %v", keys, fan, got)
					}
					for _, mode := range []uint8{3, 4, 255} {
						if fork.Safe(n, fan, mode, root) {
							t.Error("of another mode")
						}
					}
				}
				if got := fork.Safe(l, fan, fork.Delete, root); got != (root || keys > 1) {
					t.Errorf("a leaf of %d keys, root %v: %v", keys, root, got)
				}
				kids := keys + 1
				if got := fork.Safe(i, fan, fork.Delete, root); got != (!root && kids > 1 || kids > 2) {
					t.Errorf("an inner one of %d kids, root %v: %v", kids, root, got)
				}
			}
		}
	}
	if fork.Look != 0 || fork.Insert != 1 || fork.Delete != 2 {
		t.Error("the modes' numbers")
	}
}

// P13.7: behind one Put, Graft, Take, Cut of a node that is safe.
func TestSafeBehind(t *testing.T) {
	r := rand.New(rand.NewSource(6))
	for range 2000 {
		n, fan, root := some(r, r.Intn(2) == 0), 3+r.Intn(6), r.Intn(2) == 0
		key := letters[r.Intn(len(letters))]
		if fork.Safe(n, fan, fork.Insert, root) {
			if more, e := fork.Put(n, key, 1); e == api.OK && len(more.Keys) > fan {
				t.Fatal(more)
			}
			if more, e := fork.Graft(n, key, 1); e == api.OK && len(more.Keys) > fan {
				t.Fatal(more)
			}
		}
		if fork.Safe(n, fan, fork.Delete, root) {
			if less, e := fork.Take(n, key); e == api.OK && len(less.Keys) == 0 && !root {
				t.Fatal(less)
			}
			if less, e := fork.Cut(n, 0); !n.Leaf && (e != api.OK || len(less.Kids) == 0 || root && len(less.Kids) < 2) {
				t.Fatal(n, less, e)
			}
		}
	}
}

// P13.3: the same; copies.
func TestSameCopy(t *testing.T) {
	r := rand.New(rand.NewSource(7))
	all := wrong()
	for range 60 {
		all = append(all, some(r, r.Intn(2) == 0))
	}
	for _, a := range all {
		for _, b := range all {
			if fork.Same(a, b) != same(a, b) {
				t.Fatal(a, b)
			}
		}
		c := fork.Copy(a)
		if !same(a, c) {
			t.Fatal(a, c)
		}
		was := clone(a)
		scribble(c)
		if !same(a, was) {
			t.Fatal("a copy shares memory")
		}
	}
	n := leaf("a", "b")
	for k := range 4 {
		o := clone(n)
		switch k {
		case 0:
			o.Leaf = false
		case 1:
			o.Keys[1] = "c"
		case 2:
			o.Rows[1]++
		case 3:
			o.Kids = []int{0}
		}
		if fork.Same(n, o) || fork.Same(o, n) {
			t.Error(n, o)
		}
	}
	if !fork.Same(fork.Node{Keys: []string{}, Kids: []int{}, Rows: []api.Handle{}}, fork.Node{}) {
		t.Error("lists of nothing, and no lists")
	}
}

func TestExamples(t *testing.T) {
	n := leaf("b", "d", "f")
	if at, is := fork.Place(n, "c"); at != 1 || is {
		t.Error(at, is)
	}
	if at, is := fork.Place(n, "d"); at != 1 || !is {
		t.Error(at, is)
	}
	if at, is := fork.Place(n, "g"); at != 3 || is {
		t.Error(at, is)
	}
	four, _ := fork.Put(n, "c", 9)
	if !slices.Equal(four.Keys, []string{"b", "c", "d", "f"}) || !slices.Equal(four.Rows, []api.Handle{100, 9, 101, 102}) {
		t.Error(four)
	}
	if low, high, up, e := fork.Split(four); e != api.OK || !slices.Equal(low.Keys, []string{"b", "c"}) || !slices.Equal(high.Keys, []string{"d", "f"}) || up != "d" {
		t.Error(low, high, up)
	}
	i := inner([]int{1, 2, 3, 4}, "b", "d", "f")
	if fork.Kid(i, "a") != 0 || fork.Kid(i, "b") != 1 || fork.Kid(i, "g") != 3 {
		t.Error("Kid")
	}
	if s, is := fork.Fence(i, 1); s != "d" || !is {
		t.Error(s, is)
	}
	if _, is := fork.Fence(i, 3); is {
		t.Error("Fence of the last kid")
	}
	low, high, up, _ := fork.Split(i)
	if !same(low, inner([]int{1, 2, 3}, "b", "d")) || !same(high, inner([]int{4})) || up != "f" {
		t.Error(low, high, up)
	}
	if more, _ := fork.Graft(i, "e", 9); !same(more, inner([]int{1, 2, 3, 9, 4}, "b", "d", "e", "f")) {
		t.Error(more)
	}
	if less, _ := fork.Cut(i, 0); !same(less, inner([]int{2, 3, 4}, "d", "f")) {
		t.Error(less)
	}
	if less, _ := fork.Cut(i, 3); !same(less, inner([]int{1, 2, 3}, "b", "d")) {
		t.Error(less)
	}
}
