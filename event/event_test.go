package event_test

import (
	"math"
	"math/rand"
	"slices"
	"testing"

	"ferryman/api"
	"ferryman/event"
)

func make1(t *testing.T, tasks int) *event.Recorder {
	t.Helper()
	r, e := event.New(tasks)
	if e != api.OK || r == nil {
		t.Fatalf("New(%d): %v", tasks, e)
	}
	return r
}

// full is an answer in which something stands everywhere.
func full() api.Answer {
	return api.Answer{Err: api.Conflict, Found: true, Value: "v", Pairs: []api.Pair{{Key: "a", Value: "1"}, {Key: "b", Value: "2"}}}
}

func answers() []api.Answer {
	return []api.Answer{{}, full(), {Err: api.Full}, {Found: true}, {Value: "x"}, {Pairs: []api.Pair{{}}}, {Pairs: []api.Pair{}}}
}

func same(a, b api.Answer) bool {
	return a.Err == b.Err && a.Found == b.Found && a.Value == b.Value && slices.Equal(a.Pairs, b.Pairs)
}

func equal(a, b []api.Event) bool {
	return slices.EqualFunc(a, b, func(x, y api.Event) bool {
		return x.What == y.What && x.Task == y.Task && x.Call == y.Call && same(x.Answer, y.Answer)
	})
}

// legal tells by the words whether a history is legal: each task's events alone.
func legal(tasks int, l []api.Event) bool {
	if tasks < 1 || tasks > api.MaxTasks {
		return false
	}
	whats := []uint8{api.Invoke, api.Mark, api.Return}
	var seen [api.MaxTasks]int
	for _, e := range l {
		if e.Task < 0 || e.Task >= tasks {
			return false
		}
		n := seen[e.Task]
		if e.What != whats[n%3] || e.Call != n/3 || e.What != api.Return && !same(e.Answer, api.Answer{}) {
			return false
		}
		seen[e.Task]++
	}
	return true
}

// history is some legal history, of so many events.
func history(r *rand.Rand, tasks, events int) []api.Event {
	var l []api.Event
	var seen [api.MaxTasks]int
	for range events {
		task := r.Intn(tasks)
		e := api.Event{What: uint8(1 + seen[task]%3), Task: task, Call: seen[task] / 3}
		if e.What == api.Return {
			e.Answer = answers()[r.Intn(7)]
		}
		seen[task]++
		l = append(l, e)
	}
	return l
}

// add has an event come to be.
func add(r *event.Recorder, e api.Event) api.Errno {
	switch e.What {
	case api.Invoke:
		return r.Invoke(e.Task)
	case api.Mark:
		return r.Mark(e.Task)
	}
	return r.Return(e.Task, e.Answer)
}

// P6.1: a recorder has 1 to MaxTasks tasks.
func TestNew(t *testing.T) {
	for _, tasks := range []int{math.MinInt, -1, 0, api.MaxTasks + 1, math.MaxInt} {
		if r, e := event.New(tasks); r != nil || e != api.ErrArg {
			t.Errorf("New(%d): %v, %v", tasks, r, e)
		}
	}
	for tasks := 1; tasks <= api.MaxTasks; tasks++ {
		r := make1(t, tasks)
		if len(r.Events()) != 0 {
			t.Error("New has events")
		}
		for _, task := range []int{math.MinInt, -1, tasks, tasks + 1, api.MaxTasks, math.MaxInt} {
			if a, b, c := r.Invoke(task), r.Mark(task), r.Return(task, full()); a != api.ErrArg || b != api.ErrArg || c != api.ErrArg {
				t.Errorf("the task %d of %d: %v, %v, %v", task, tasks, a, b, c)
			}
			if call, marked, is := r.Under(task); call != 0 || marked || is {
				t.Errorf("Under(%d): %d, %v, %v", task, call, marked, is)
			}
		}
		for task := range tasks {
			if e := r.Invoke(task); e != api.OK {
				t.Errorf("Invoke(%d) of %d: %v", task, tasks, e)
			}
		}
	}
}

// P6.1, P6.3: whatever is asked of a recorder: what is recorded is what was done, and it is legal.
func TestWhatever(t *testing.T) {
	r := rand.New(rand.NewSource(1))
	for range 60 {
		tasks := 1 + r.Intn(api.MaxTasks)
		rec := make1(t, tasks)
		var l []api.Event
		var seen [api.MaxTasks]int
		for range 80 {
			task := r.Intn(tasks)
			e := api.Event{What: uint8(1 + r.Intn(3)), Task: task, Call: seen[task] / 3}
			if e.What == api.Return {
				e.Answer = answers()[r.Intn(7)]
			}
			want := api.OK
			if int(e.What) != 1+seen[task]%3 {
				want = api.ErrState
			}
			if got := add(rec, e); got != want {
				t.Fatalf("%v: %v, not %v", e, got, want)
			}
			if want == api.OK {
				seen[task]++
				l = append(l, e)
			}
			for task := range tasks {
				n := seen[task]
				call, marked, is := rec.Under(task)
				if is != (n%3 > 0) || marked != (n%3 == 2) || is && call != n/3 || !is && call != 0 {
					t.Fatalf("Under(%d) behind %d: %d, %v, %v", task, n, call, marked, is)
				}
			}
		}
		if got := rec.Events(); !equal(got, l) || !event.Legal(tasks, got) {
			t.Fatalf("%v, not %v", got, l)
		}
	}
}

// P6.3: each legal history is what a recorder has, to which its events come.
func TestEachLegalOne(t *testing.T) {
	r := rand.New(rand.NewSource(2))
	for range 50 {
		tasks := 1 + r.Intn(api.MaxTasks)
		l := history(r, tasks, r.Intn(60))
		rec := make1(t, tasks)
		for _, e := range l {
			if n := add(rec, e); n != api.OK {
				t.Fatalf("%v: %v", e, n)
			}
		}
		if !equal(rec.Events(), l) || !event.Legal(tasks, l) || !event.Same(rec.Events(), l) {
			t.Fatalf("%v", l)
		}
	}
}

// P6.2, P6.4: beginnings; one task alone, and the others.
func TestBeginnings(t *testing.T) {
	r := rand.New(rand.NewSource(3))
	for range 40 {
		tasks := 1 + r.Intn(api.MaxTasks)
		l := history(r, tasks, 40)
		for n := range len(l) + 1 {
			if !event.Legal(tasks, l[:n]) {
				t.Fatalf("the first %d of %v", n, l)
			}
		}
		for task := range tasks {
			alone := slices.DeleteFunc(slices.Clone(l), func(e api.Event) bool { return e.Task != task })
			others := slices.DeleteFunc(slices.Clone(l), func(e api.Event) bool { return e.Task == task })
			if !event.Legal(tasks, alone) || !event.Legal(tasks, others) {
				t.Fatalf("the task %d, or the others, of %v", task, l)
			}
		}
	}
	for _, tasks := range []int{math.MinInt, -1, 0, 7, math.MaxInt} {
		if event.Legal(tasks, nil) {
			t.Errorf("of %d tasks", tasks)
		}
	}
	for tasks := 1; tasks <= 6; tasks++ {
		if !event.Legal(tasks, nil) {
			t.Errorf("no events of %d tasks", tasks)
		}
	}
}

// change makes one event of a history another one, or takes it out, or puts one in.
func change(r *rand.Rand, l []api.Event) []api.Event {
	l = slices.Clone(l)
	if len(l) == 0 {
		return []api.Event{{What: uint8(r.Intn(5)), Task: r.Intn(3) - 1, Call: r.Intn(2)}}
	}
	e := &l[r.Intn(len(l))]
	switch r.Intn(6) {
	case 0:
		e.What = []uint8{0, 1, 2, 3, 4, 255}[r.Intn(6)]
	case 1:
		e.Task = r.Intn(8) - 1
	case 2:
		e.Call += r.Intn(5) - 2
	case 3:
		e.Answer = answers()[r.Intn(7)]
	case 4:
		at := r.Intn(len(l))
		return slices.Delete(l, at, at+1)
	case 5:
		i, k := r.Intn(len(l)), r.Intn(len(l))
		l[i], l[k] = l[k], l[i]
	}
	return l
}

// P6.2: what is legal, and what is not.
func TestLegal(t *testing.T) {
	r := rand.New(rand.NewSource(4))
	not := 0
	for range 5000 {
		tasks := 1 + r.Intn(api.MaxTasks)
		l := change(r, history(r, tasks, r.Intn(20)))
		want := legal(tasks, l)
		if got := event.Legal(tasks, l); got != want {
			t.Fatalf("of %d tasks %v: %v", tasks, l, got)
		}
		if !want {
			not++
		}
	}
	if not < 1000 {
		t.Error("too few that are not legal:", not)
	}
	for _, what := range []uint8{api.Invoke, api.Mark} {
		for k, a := range answers() {
			l := []api.Event{{What: api.Invoke}, {What: api.Mark}, {What: api.Return}}
			l[what-1].Answer = a
			if got := event.Legal(1, l); got != (k == 0 || k == 6) {
				t.Errorf("%d with %v: %v", what, a, got)
			}
		}
	}
}

// P6.2: without the Marks.
func TestBare(t *testing.T) {
	r := rand.New(rand.NewSource(5))
	for range 200 {
		l := history(r, 3, r.Intn(30))
		if r.Intn(2) == 0 {
			l = change(r, l)
		}
		want := slices.DeleteFunc(slices.Clone(l), func(e api.Event) bool { return e.What == 2 })
		before := slices.Clone(l)
		if got := event.Bare(l); !equal(got, want) || !equal(l, before) {
			t.Fatalf("%v: %v", l, got)
		}
	}
}

// less tells by the words how many of the task's calls ahead of one are gone.
func less(gone []event.Place, task, call int) int {
	n := 0
	for k := 0; k < call; k++ {
		if slices.Contains(gone, event.Place{Task: task, Call: k}) {
			n++
		}
	}
	return n
}

// P6.2, P6.5: without some calls.
func TestWithout(t *testing.T) {
	r := rand.New(rand.NewSource(6))
	for range 500 {
		l := history(r, 3, r.Intn(60))
		var gone []event.Place
		for range r.Intn(8) {
			gone = append(gone, event.Place{Task: r.Intn(5) - 1, Call: r.Intn(9)})
		}
		var want []api.Event
		for _, e := range l {
			if !slices.Contains(gone, event.Place{Task: e.Task, Call: e.Call}) {
				e.Call -= less(gone, e.Task, e.Call)
				want = append(want, e)
			}
		}
		before, places := slices.Clone(l), slices.Clone(gone)
		got := event.Without(l, gone)
		if !equal(got, want) || !event.Legal(3, got) {
			t.Fatalf("%v without %v: %v, not %v", l, gone, got, want)
		}
		if !equal(l, before) || !slices.Equal(gone, places) {
			t.Fatal("what was handed in is otherwise now")
		}
	}
	one := []api.Event{{What: api.Invoke, Call: 1}}
	for _, gone := range [][]event.Place{{{Task: 0, Call: 5}}, {{Task: 1, Call: 0}}, {{Task: 0, Call: 2}}} {
		if got := event.Without(one, gone); !equal(got, one) {
			t.Errorf("without %v: %v", gone, got)
		}
	}
	twice := []event.Place{{Task: 0, Call: 0}, {Task: 0, Call: 0}}
	if got := event.Without(one, twice); len(got) != 1 || got[0].Call != 0 {
		t.Errorf("one that is told twice counts once: %v", got)
	}
}

// P6.5: at once, or one behind the other, by the numbers that are then theirs.
func TestOneBehindTheOther(t *testing.T) {
	r := rand.New(rand.NewSource(7))
	for range 300 {
		l := history(r, 3, r.Intn(60))
		gone := map[event.Place]int{}
		var at []event.Place
		for range r.Intn(6) {
			p := event.Place{Task: r.Intn(3), Call: r.Intn(6)}
			if gone[p]++; gone[p] == 1 {
				at = append(at, p)
			}
		}
		one := l
		for k, p := range at {
			p.Call -= less(at[:k], p.Task, p.Call)
			one = event.Without(one, []event.Place{p})
		}
		if got := event.Without(l, at); !event.Same(got, one) {
			t.Fatalf("%v without %v: at once %v, one by one %v", l, at, got, one)
		}
	}
}

// P6.2: the same, and not.
func TestSame(t *testing.T) {
	r := rand.New(rand.NewSource(8))
	if !event.Same(nil, []api.Event{}) {
		t.Error("a list of nothing, and no list")
	}
	for range 3000 {
		l := history(r, 3, r.Intn(12))
		k := l
		if r.Intn(2) == 0 {
			k = change(r, l)
		} else if r.Intn(3) == 0 {
			k = l[:r.Intn(len(l)+1)]
		}
		if event.Same(l, k) != equal(l, k) || event.Same(k, l) != equal(l, k) || !event.Same(l, slices.Clone(l)) {
			t.Fatalf("%v, %v", l, k)
		}
	}
	base := []api.Event{{What: api.Return, Answer: full()}}
	for k := range 5 {
		a := full()
		switch k {
		case 0:
			a.Err = api.Full
		case 1:
			a.Found = false
		case 2:
			a.Value = "w"
		case 3:
			a.Pairs[1].Value = "3"
		case 4:
			a.Pairs = a.Pairs[:1]
		}
		if event.Same(base, []api.Event{{What: api.Return, Answer: a}}) {
			t.Errorf("answers that differ: %v", a)
		}
	}
}

// P6.6, R1: what is handed in, and told, shares no memory.
func TestApart(t *testing.T) {
	r := make1(t, 2)
	r.Invoke(0)
	r.Mark(0)
	a := full()
	r.Return(0, a)
	a.Pairs[0].Key = "changed"
	first := r.Events()
	if !same(first[2].Answer, full()) {
		t.Error("what was handed in is kept:", first[2])
	}
	first[2].Answer.Pairs[0].Key, first[0].Task = "changed", 9
	if l := r.Events(); l[0].Task != 0 || !same(l[2].Answer, full()) {
		t.Error("what was told is kept:", l)
	}
	l := r.Events()
	for name, got := range map[string][]api.Event{"Bare": event.Bare(l), "Without": event.Without(l, nil)} {
		got[len(got)-1].Answer.Pairs[0].Key = "changed"
		got[0].Task = 9
		if l[0].Task != 0 || !same(l[2].Answer, full()) {
			t.Errorf("%s shares memory", name)
		}
	}
	told := r.Events()
	r.Invoke(1)
	if len(told) != 3 {
		t.Error("what was told is otherwise")
	}
}

// P6.6: what is done to the one is not seen by the other.
func TestCopies(t *testing.T) {
	for turn := range 2 {
		a := make1(t, 2)
		a.Invoke(0)
		a.Mark(0)
		a.Return(0, full())
		a.Invoke(1)
		b := a.Copy()
		if turn == 1 {
			a, b = b, a
		}
		a.Invoke(0)
		a.Mark(1)
		if call, marked, is := b.Under(1); call != 0 || marked || !is {
			t.Error(call, marked, is)
		}
		if _, _, is := b.Under(0); is || len(b.Events()) != 4 || len(a.Events()) != 6 {
			t.Error("the copy:", b.Events())
		}
		if e := b.Mark(1); e != api.OK {
			t.Error(e)
		}
		if e := b.Return(1, api.Answer{Value: "b"}); e != api.OK || len(a.Events()) != 6 || a.Events()[5].What != api.Mark {
			t.Error(e, a.Events())
		}
		if e := b.Invoke(2); e != api.ErrArg {
			t.Error("the copy's tasks:", e)
		}
	}
}

// P6.6: of however many events, both go their own way.
func TestCopiesOfAll(t *testing.T) {
	r := rand.New(rand.NewSource(9))
	for n := range 40 {
		l := history(r, 2, n+4)
		a := make1(t, 2)
		for _, e := range l[:n] {
			add(a, e)
		}
		b := a.Copy()
		if !equal(a.Events(), b.Events()) {
			t.Fatal("the copy tells something else")
		}
		other := slices.DeleteFunc(history(r, 2, 20), func(e api.Event) bool { return e.Task == 0 })
		var more []api.Event
		for k, e := range l[n:] {
			add(a, e)
			if k < len(other) && add(b, other[k]) == api.OK {
				more = append(more, b.Events()[n+len(more)])
			}
		}
		if got := a.Events(); !equal(got, l) {
			t.Fatalf("%v, not %v", got, l)
		}
		if got := b.Events(); !equal(got[:n], l[:n]) || !equal(got[n:], more) {
			t.Fatalf("the copy: %v, not %v, %v", got, l[:n], more)
		}
	}
}

// R1: of nil.
func TestNil(t *testing.T) {
	var r *event.Recorder
	if a, b, c := r.Invoke(9), r.Mark(9), r.Return(9, full()); a != api.ErrNil || b != api.ErrNil || c != api.ErrNil {
		t.Error(a, b, c)
	}
	if call, marked, is := r.Under(0); call != 0 || marked || is || len(r.Events()) != 0 || r.Copy() != nil {
		t.Error("of nil")
	}
	if len(event.Bare(nil)) != 0 || len(event.Without(nil, nil)) != 0 || len(event.Without(nil, []event.Place{{}})) != 0 {
		t.Error("of no history")
	}
}

func TestExamples(t *testing.T) {
	r := make1(t, 2)
	r.Invoke(0)
	r.Invoke(1)
	r.Mark(1)
	r.Mark(0)
	r.Return(0, api.Answer{Found: true})
	want := []api.Event{{What: 1}, {What: 1, Task: 1}, {What: 2, Task: 1}, {What: 2}, {What: 3, Answer: api.Answer{Found: true}}}
	if !equal(r.Events(), want) {
		t.Error(r.Events())
	}
	r.Return(1, api.Answer{})
	r.Invoke(0)
	if call, marked, is := r.Under(0); call != 1 || marked || !is {
		t.Error(call, marked, is)
	}
	if e := r.Invoke(0); e != api.ErrState {
		t.Error(e)
	}
	if e := r.Return(0, api.Answer{}); e != api.ErrState {
		t.Error(e)
	}
	if e := r.Invoke(2); e != api.ErrArg {
		t.Error(e)
	}
	got := event.Without(r.Events(), []event.Place{{Task: 0, Call: 0}})
	if !equal(got, []api.Event{{What: 1, Task: 1}, {What: 2, Task: 1}, {What: 3, Task: 1}, {What: 1}}) {
		t.Error(got)
	}
}
