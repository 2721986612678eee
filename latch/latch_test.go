package latch_test

import (
	"math"
	"math/rand"
	"reflect"
	"testing"

	"ferryman/latch"
)

func name(kind uint8, id uint64) latch.Name { return latch.Name{Kind: kind, ID: id} }

var tasks = []int{0, 1, 2, 3, 4, -1, -7, 5, math.MaxInt, math.MinInt}

// names are some in their row.
var names = []latch.Name{name(0, 0), name(0, 1), name(0, 9), name(0, math.MaxUint64), name(1, 0), name(1, 7), name(2, 3), name(127, 1), name(128, 0), name(255, 0), name(255, math.MaxUint64)}

// P5.1, P5.2: of none that is held.
func TestNew(t *testing.T) {
	l := latch.New()
	if l == nil || l.All() != 0 {
		t.Fatal("New")
	}
	for _, n := range names {
		if who, is := l.Owner(n); is || who != 0 {
			t.Error(n, who, is)
		}
		for _, task := range tasks {
			if l.Drop(n, task) || len(l.Held(task)) != 0 {
				t.Error(n, task)
			}
		}
	}
}

// held tells by the words what a task holds, of what is held.
func held(m map[latch.Name]int, task int) []latch.Name {
	var l []latch.Name
	for _, n := range names {
		if who, is := m[n]; is && who == task {
			l = append(l, n)
		}
	}
	return l
}

func check(t *testing.T, l *latch.Latches, m map[latch.Name]int) {
	t.Helper()
	for _, n := range names {
		who, is := m[n]
		if got, had := l.Owner(n); got != who || had != is {
			t.Fatalf("Owner(%v): %d, %v, not %d, %v", n, got, had, who, is)
		}
	}
	sum := 0
	for _, task := range tasks {
		got, want := l.Held(task), held(m, task)
		if len(got)+len(want) > 0 && !reflect.DeepEqual(got, want) {
			t.Fatalf("Held(%d): %v, not %v", task, got, want)
		}
		sum += len(got)
	}
	if l.All() != len(m) || sum != len(m) {
		t.Fatalf("All: %d, together %d, not %d", l.All(), sum, len(m))
	}
}

// P5.1 to P5.5: whatever is tried, and dropped.
func TestWhatever(t *testing.T) {
	r := rand.New(rand.NewSource(1))
	for range 20 {
		l, m := latch.New(), map[latch.Name]int{}
		for range 300 {
			n, task := names[r.Intn(len(names))], tasks[r.Intn(len(tasks))]
			who, is := m[n]
			if r.Intn(3) > 0 {
				want := !is || who == task
				if got := l.Try(n, task); got != want {
					t.Fatalf("Try(%v, %d): %v", n, task, got)
				}
				if want {
					m[n] = task
				}
			} else {
				want := is && who == task
				if got := l.Drop(n, task); got != want {
					t.Fatalf("Drop(%v, %d): %v", n, task, got)
				}
				if want {
					delete(m, n)
				}
			}
			check(t, l, m)
		}
	}
}

// P5.2: what was told stays as it was, and what is told later does not hang on what is done to it.
func TestTold(t *testing.T) {
	l := latch.New()
	for _, n := range names {
		l.Try(n, 1)
	}
	told := l.Held(1)
	l.Drop(names[0], 1)
	if !reflect.DeepEqual(told, names) {
		t.Error("what was told is otherwise now:", told)
	}
	told[3] = name(9, 9)
	if !reflect.DeepEqual(l.Held(1), names[1:]) {
		t.Error("what is told hangs on what was:", l.Held(1))
	}
}

// P5.6: what is done to the one is not seen by the other.
func TestCopies(t *testing.T) {
	for turn := range 2 {
		a := latch.New()
		a.Try(name(1, 7), 2)
		a.Try(name(0, 9), 3)
		b := a.Copy()
		if turn == 1 {
			a, b = b, a
		}
		a.Drop(name(1, 7), 2)
		a.Try(name(5, 5), 2)
		a.Drop(name(0, 9), 3)
		a.Try(name(0, 9), 4)
		check(t, b, map[latch.Name]int{name(1, 7): 2, name(0, 9): 3})
		if who, is := a.Owner(name(0, 9)); !is || who != 4 || a.All() != 2 {
			t.Error("the one that was changed:", who, is, a.All())
		}
	}
}

// R1: of nil.
func TestNil(t *testing.T) {
	var l *latch.Latches
	if who, is := l.Owner(name(1, 1)); who != 0 || is || l.Try(name(1, 1), 0) || l.Drop(name(1, 1), 0) || len(l.Held(0)) != 0 || l.All() != 0 || l.Copy() != nil {
		t.Error("of nil")
	}
}

func TestExamples(t *testing.T) {
	l := latch.New()
	if !l.Try(name(1, 7), 2) || l.Try(name(1, 7), 3) || !l.Try(name(1, 7), 2) {
		t.Error("Try")
	}
	if l.Drop(name(1, 7), 3) || !l.Drop(name(1, 7), 2) || !l.Try(name(1, 7), 3) {
		t.Error("Drop")
	}
	l.Try(name(0, 9), 3)
	if got := l.Held(3); !reflect.DeepEqual(got, []latch.Name{name(0, 9), name(1, 7)}) {
		t.Error(got)
	}
}
