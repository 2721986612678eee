package view_test

import (
	"math"
	"math/rand"
	"slices"
	"testing"

	"ferryman/view"
)

// sees tells by the words whether a view sees a writer.
func sees(v view.View, writer int) bool {
	if writer < 1 {
		return false
	}
	if writer == v.Own {
		return true
	}
	for _, w := range v.Busy {
		if w == writer {
			return false
		}
	}
	return writer < v.High
}

// some is some numbers, of which some are out of any range.
func some(r *rand.Rand) []int {
	var l []int
	for range r.Intn(8) {
		l = append(l, r.Intn(14)-3)
	}
	if r.Intn(5) == 0 {
		l = append(l, math.MaxInt, math.MinInt)
	}
	return l
}

// P9.1: what is busy in a view.
func TestOf(t *testing.T) {
	r := rand.New(rand.NewSource(1))
	for range 5000 {
		own, high, busy := r.Intn(12)-1, r.Intn(12)-1, some(r)
		before := slices.Clone(busy)
		v := view.Of(own, high, busy)
		var want []int
		for w := 1; w < high; w++ {
			if w != own && slices.Contains(busy, w) {
				want = append(want, w)
			}
		}
		if v.Own != own || v.High != high || !slices.Equal(v.Busy, want) {
			t.Fatalf("Of(%d, %d, %v): %v, not %v", own, high, busy, v, want)
		}
		if !slices.Equal(busy, before) {
			t.Fatalf("what was handed in was %v, and is %v", before, busy)
		}
	}
	busy := []int{1, 2, 3}
	v := view.Of(9, 9, busy)
	busy[0] = 7
	if !slices.Equal(v.Busy, []int{1, 2, 3}) {
		t.Error("the view shares memory:", v.Busy)
	}
	v.Busy[1] = 8
	if busy[1] != 2 {
		t.Error("the view shares memory:", busy)
	}
}

// views are views of Of, and others, whose busy ones stand in whatever row.
func views(r *rand.Rand) view.View {
	own, high, busy := r.Intn(12)-1, r.Intn(12)-1, some(r)
	if r.Intn(2) == 0 {
		return view.Of(own, high, busy)
	}
	return view.View{Own: own, High: high, Busy: busy}
}

// P9.1, P9.3, P9.4: what a view sees, and the least that it does not.
func TestSees(t *testing.T) {
	r := rand.New(rand.NewSource(2))
	for range 5000 {
		v := views(r)
		least := 0
		for w := -3; w < 20; w++ {
			got, want := view.Sees(v, w), sees(v, w)
			if got != want {
				t.Fatalf("%v sees %d: %v", v, w, got)
			}
			if w >= 1 && !want && least == 0 {
				least = w
			}
			if got && w != v.Own && (w >= v.High || slices.Contains(v.Busy, w)) {
				t.Fatalf("%v sees %d", v, w)
			}
		}
		if got := view.Least(v); got != least {
			t.Fatalf("Least of %v: %d, not %d", v, got, least)
		}
		for _, w := range []int{math.MinInt, math.MaxInt} {
			if view.Sees(v, w) != sees(v, w) {
				t.Fatalf("%v sees %d", v, w)
			}
		}
	}
}

// P9.1: numbers as great as there are.
func TestGreat(t *testing.T) {
	most := math.MaxInt
	for _, x := range []struct {
		v     view.View
		least int
	}{
		{view.View{Own: most, High: most}, most},
		{view.View{Own: most - 1, High: most - 1}, most},
		{view.View{Own: 5, High: most}, most},
		{view.View{Own: most, High: most, Busy: []int{most}}, most},
		{view.View{Own: most, High: most, Busy: []int{most - 1}}, most - 1},
		{view.View{Own: most, High: most, Busy: []int{most, 0, -4}}, most},
		{view.View{Own: 1, High: math.MinInt}, 2},
		{view.View{Own: 2, High: math.MinInt}, 1},
		{view.View{}, 1},
	} {
		if got := view.Least(x.v); got != x.least {
			t.Errorf("Least of %v: %d, not %d", x.v, got, x.least)
		}
	}
	v := view.View{Own: most, High: most}
	if !view.Sees(v, most) || !view.Sees(v, most-1) || view.Sees(view.View{Own: 1, High: most}, most) {
		t.Error("the greatest writer")
	}
}

// P9.5, P9.6: of writers that begin, and end: views see what had ended.
func TestBeginAndEnd(t *testing.T) {
	for seed := range 50 {
		r := rand.New(rand.NewSource(int64(seed)))
		var busy []int
		var seen []view.View
		ended := []map[int]struct{}{}
		over := map[int]struct{}{}
		for next := 1; next <= 30; {
			if len(busy) > 0 && r.Intn(2) == 0 {
				k := r.Intn(len(busy))
				over[busy[k]] = struct{}{}
				busy = slices.Delete(busy, k, k+1)
				continue
			}
			seen = append(seen, view.Of(next, next, busy))
			then := map[int]struct{}{}
			for w := range over {
				then[w] = struct{}{}
			}
			ended = append(ended, then)
			busy = append(busy, next)
			r.Shuffle(len(busy), func(i, k int) { busy[i], busy[k] = busy[k], busy[i] })
			next++
		}
		for k, v := range seen {
			for w := 1; w <= 32; w++ {
				_, was := ended[k][w]
				if got := view.Sees(v, w); got != (was || w == k+1) {
					t.Fatalf("%v sees %d: %v; it had ended: %v", v, w, got, was)
				}
				for _, later := range seen[k+1:] {
					if view.Sees(v, w) && w != v.Own && !view.Sees(later, w) {
						t.Fatalf("%v sees %d, %v does not", v, w, later)
					}
				}
			}
		}
	}
}

// P9.2: the same, number by number; copies.
func TestSameCopy(t *testing.T) {
	r := rand.New(rand.NewSource(3))
	for range 3000 {
		a, b := views(r), views(r)
		if r.Intn(2) == 0 {
			b = a
			b.Busy = slices.Clone(a.Busy)
			switch r.Intn(5) {
			case 0:
				b.Own++
			case 1:
				b.High++
			case 2:
				b.Busy = append(b.Busy, 1)
			case 3:
				slices.Reverse(b.Busy)
			}
		}
		want := a.Own == b.Own && a.High == b.High && slices.Equal(a.Busy, b.Busy)
		if view.Same(a, b) != want || view.Same(b, a) != want || !view.Same(a, view.Copy(a)) {
			t.Fatalf("Same of %v, %v: %v", a, b, !want)
		}
		if got := view.Copy(a); got.Own != a.Own || got.High != a.High || !slices.Equal(got.Busy, a.Busy) {
			t.Fatalf("the copy of %v: %v", a, got)
		}
	}
	if !view.Same(view.View{Busy: []int{}}, view.View{}) {
		t.Error("a list of nothing, and no list")
	}
	v := view.View{Own: 3, High: 2, Busy: []int{5, 1, 1}}
	c := view.Copy(v)
	c.Busy[0] = 9
	if v.Busy[0] != 5 {
		t.Error("the copy shares memory")
	}
}

func TestExamples(t *testing.T) {
	v := view.Of(5, 5, []int{3, 2, 3, 9, 0})
	if v.Own != 5 || v.High != 5 || !slices.Equal(v.Busy, []int{2, 3}) {
		t.Error(v)
	}
	for _, w := range []int{1, 4, 5} {
		if !view.Sees(v, w) {
			t.Error(w)
		}
	}
	for _, w := range []int{2, 3, 6, 0} {
		if view.Sees(v, w) {
			t.Error(w)
		}
	}
	if view.Least(v) != 2 || view.Least(view.Of(1, 1, nil)) != 2 {
		t.Error("Least")
	}
}
