package replay_test

import (
	"fmt"
	"math/rand"
	"slices"
	"strings"
	"testing"

	"ferryman/api"
	"ferryman/compile"
	"ferryman/event"
	"ferryman/model"
	"ferryman/replay"
	"ferryman/turns"
)

func same(a, b api.Answer) bool {
	return a.Err == b.Err && a.Found == b.Found && a.Value == b.Value && slices.Equal(a.Pairs, b.Pairs)
}

// configs are such by which few calls come to a lot.
func configs(r *rand.Rand) api.Config {
	c := turns.Config(r.Intn)
	c.Keys, c.TS = 1+r.Intn(3), 1+r.Intn(6)
	return c
}

// run is a history by choices, as the model answers.
func run(c api.Config, programs [][]api.Call, choices []int) []api.Event {
	l, _ := compile.Free(c, programs, choices)
	return l
}

// of tells by the words whether a history is of programs.
func of(c api.Config, programs [][]api.Call, l []api.Event) bool {
	for _, e := range l {
		if e.Task < 0 || e.Task >= len(programs) || e.Call < 0 || e.Call >= len(programs[e.Task]) {
			return false
		}
	}
	return event.Legal(c.Tasks, l)
}

// checked tells by the words what Check is to answer.
func checked(c api.Config, programs [][]api.Call, l []api.Event) (int, api.Errno) {
	m, _ := model.New(c)
	told := map[int]api.Answer{}
	for k, e := range l {
		if !of(c, programs, l[:k+1]) {
			return k, api.ErrForm
		}
		if e.What == api.Mark {
			told[e.Task] = m.Do(e.Task, programs[e.Task][e.Call])
		}
		if e.What == api.Return && !same(e.Answer, told[e.Task]) {
			return k, api.ErrState
		}
	}
	return -1, api.OK
}

// changed is a history to which something was done.
func changed(r *rand.Rand, l []api.Event) []api.Event {
	l = slices.Clone(l)
	if len(l) == 0 {
		return l
	}
	at := r.Intn(len(l))
	e := &l[at]
	switch r.Intn(9) {
	case 0:
		e.What = uint8(r.Intn(5))
	case 1:
		e.Task = r.Intn(7) - 1
	case 2:
		e.Call += r.Intn(3) - 1
	case 3:
		e.Answer.Found = !e.Answer.Found
	case 4:
		e.Answer.Err = []api.Errno{0, 33, 34, 35}[r.Intn(4)]
	case 5:
		e.Answer.Value += "x"
	case 6:
		e.Answer.Pairs = append(slices.Clone(e.Answer.Pairs), api.Pair{Key: "a"})
	case 7:
		return slices.Delete(l, at, at+1)
	case 8:
		other := r.Intn(len(l))
		l[at], l[other] = l[other], l[at]
	}
	return l
}

// P28.1: programs that may be.
func TestMay(t *testing.T) {
	c := api.Config{Tasks: 2, Active: 1, Keys: 1, Depth: 2, TS: 1, KeyLen: 1, Fan: 3}
	long := make([]api.Call, api.MaxCalls+1)
	for k, x := range []struct {
		c    api.Config
		l    [][]api.Call
		want bool
	}{
		{c, nil, true}, {c, [][]api.Call{nil, nil}, true}, {c, [][]api.Call{long[:64], long[:64]}, true}, {c, [][]api.Call{{{Kind: 0}, {Kind: 77}}}, true},
		{c, [][]api.Call{nil, nil, nil}, false}, {c, [][]api.Call{long}, false}, {c, [][]api.Call{nil, long}, false}, {api.Config{}, nil, false},
	} {
		if got := replay.May(x.c, x.l); got != x.want {
			t.Errorf("%d: %v", k, got)
		}
		if x.want {
			continue
		}
		bad := []api.Event{{What: 9}}
		for _, l := range [][]api.Event{nil, bad} {
			if at, e := replay.Check(x.c, x.l, l); at != -1 || e != api.ErrArg {
				t.Error("Check:", at, e)
			}
			if m, e := replay.Model(x.c, x.l, l); m != nil || e != api.ErrArg {
				t.Error("Model:", m, e)
			}
			if is, e := replay.Fits(x.c, x.l, append(l, make([]api.Event, 25)...)); is || e != api.ErrArg {
				t.Error("Fits:", is, e)
			}
			if got := replay.Answers(x.c, x.l, l); len(got) != 0 {
				t.Error("Answers:", got)
			}
		}
	}
}

// P28.1, P28.3: right histories, their beginnings, and such as are not right.
func TestCheck(t *testing.T) {
	told := map[api.Errno]int{}
	for seed := range 1500 {
		r := rand.New(rand.NewSource(int64(seed)))
		c := configs(r)
		p := turns.Programs(r.Intn, c, 9)
		l := run(c, p, turns.Picks(r.Intn, c, r.Intn(60)))
		for n := range len(l) + 1 {
			if at, e := replay.Check(c, p, l[:n]); at != -1 || e != api.OK {
				t.Fatalf("the first %d of %v: %d, %v", n, l, at, e)
			}
		}
		for range 5 {
			x := changed(r, l)
			at, e := replay.Check(c, p, x)
			if wantAt, want := checked(c, p, x); at != wantAt || e != want {
				t.Fatalf("%v: %d, %v, not %d, %v", x, at, e, wantAt, want)
			}
			told[e]++
		}
	}
	for _, e := range []api.Errno{api.OK, api.ErrForm, api.ErrState} {
		if told[e] < 300 {
			t.Errorf("%v was answered %d times", e, told[e])
		}
	}
}

// text tells all that a model tells.
func text(m *model.Model) string {
	out := fmt.Sprint(m.Clock(), m.Floor(), m.Active(), m.Retained())
	for _, key := range m.Keys() {
		v, is := m.Intent(key)
		out += fmt.Sprint("|", key, m.Versions(key), v, is)
	}
	for task := range 6 {
		for n := range 12 {
			w, state, snapshot := m.Tx(task, n)
			out += fmt.Sprint(" ", w, state, snapshot)
		}
	}
	return out
}

// P28.1, P28.4: what the model tells of a history, also of one that is not right.
func TestAnswers(t *testing.T) {
	for seed := range 1500 {
		r := rand.New(rand.NewSource(int64(seed)))
		c := configs(r)
		p := turns.Programs(r.Intn, c, 9)
		l := run(c, p, turns.Picks(r.Intn, c, r.Intn(60)))
		for range r.Intn(3) {
			l = changed(r, l)
		}
		got := replay.Answers(c, p, l)
		m, e := replay.Model(c, p, l)
		if !of(c, p, l) {
			if len(got) != 0 || m != nil || e != api.ErrForm {
				t.Fatalf("%v: %v, %v", l, got, e)
			}
			continue
		}
		var want []replay.Done
		own, _ := model.New(c)
		for k, x := range l {
			switch x.What {
			case api.Mark:
				want = append(want, replay.Done{Task: x.Task, Call: x.Call, Answer: own.Do(x.Task, p[x.Task][x.Call]), Mark: k, Back: -1})
			case api.Return:
				for i := range want {
					if want[i].Task == x.Task && want[i].Call == x.Call {
						want[i].Back = k
					}
				}
			}
		}
		if !slices.EqualFunc(got, want, func(a, b replay.Done) bool {
			return a.Task == b.Task && a.Call == b.Call && a.Mark == b.Mark && a.Back == b.Back && same(a.Answer, b.Answer)
		}) {
			t.Fatalf("%v: %v, not %v", l, got, want)
		}
		if e != api.OK || text(m) != text(own) {
			t.Fatalf("Model: %v", e)
		}
		right := slices.Clone(l)
		for _, d := range got {
			if d.Back >= 0 {
				right[d.Back].Answer = d.Answer
			}
		}
		if at, e := replay.Check(c, p, right); at != -1 || e != api.OK {
			t.Fatalf("made right: %d, %v", at, e)
		}
		for _, d := range got {
			if d.Back < 0 {
				continue
			}
			other := slices.Clone(right)
			other[d.Back].Answer.Found = !d.Answer.Found
			if at, e := replay.Check(c, p, other); at != d.Back || e != api.ErrState {
				t.Fatalf("made wrong: %d, %v", at, e)
			}
		}
	}
}

// fits tells by the words whether some Marks that are put in make a history right: all ways are tried.
func fits(c api.Config, programs [][]api.Call, l []api.Event) bool {
	var try func(done, left []api.Event, under map[int]int) bool
	try = func(done, left []api.Event, under map[int]int) bool {
		if _, e := replay.Check(c, programs, done); e != api.OK {
			return false
		}
		if len(left) == 0 {
			return true
		}
		for task, call := range under {
			if call >= 0 {
				next := clone(under)
				next[task] = -1
				if try(append(slices.Clone(done), api.Event{What: api.Mark, Task: task, Call: call}), left, next) {
					return true
				}
			}
		}
		e, next := left[0], clone(under)
		if e.What == api.Invoke {
			next[e.Task] = e.Call
		} else {
			next[e.Task] = -1
		}
		return try(append(slices.Clone(done), e), left[1:], next)
	}
	return try(nil, l, map[int]int{})
}

func clone(m map[int]int) map[int]int {
	out := map[int]int{}
	for k, v := range m {
		out[k] = v
	}
	return out
}

// P28.2, P28.5: what fits, and what does not.
func TestFits(t *testing.T) {
	yes, no := 0, 0
	for seed := range 2500 {
		r := rand.New(rand.NewSource(int64(seed)))
		c := configs(r)
		p := turns.Programs(r.Intn, c, 5)
		l := run(c, p, turns.Picks(r.Intn, c, r.Intn(18)))
		if is, e := replay.Fits(c, p, event.Bare(l)); len(event.Bare(l)) <= 24 && (!is || e != api.OK) {
			t.Fatalf("without its Marks %v does not fit: %v", l, e)
		}
		bare := event.Bare(l)
		if len(bare) == 0 || len(bare) > 9 {
			continue
		}
		for range 2 {
			k := r.Intn(len(bare))
			if e := &bare[k]; e.What == api.Return {
				switch r.Intn(3) {
				case 0:
					e.Answer.Err = []api.Errno{0, 33, 34, 35}[r.Intn(4)]
				case 1:
					e.Answer.Found = !e.Answer.Found
				case 2:
					e.Answer.Value = string(rune('0' + r.Intn(9)))
				}
			}
		}
		if !of(c, p, withMarks(bare)) {
			t.Fatal("the test is wrong")
		}
		got, e := replay.Fits(c, p, bare)
		if want := fits(c, p, bare); got != want || e != api.OK {
			t.Fatalf("%v: %v, %v", bare, got, e)
		}
		if !got {
			no++
			continue
		}
		yes++
		later(t, r, c, p, bare)
	}
	if yes < 300 || no < 300 {
		t.Error("too few:", yes, no)
	}
}

// withMarks puts a Mark ahead of each Return.
func withMarks(l []api.Event) []api.Event {
	var out []api.Event
	for _, e := range l {
		if e.What == api.Return {
			out = append(out, api.Event{What: api.Mark, Task: e.Task, Call: e.Call})
		}
		out = append(out, e)
	}
	return out
}

// later tells whether one that fits still does without its last event, and with an Invoke put earlier, or a Return put later.
func later(t *testing.T, r *rand.Rand, c api.Config, p [][]api.Call, l []api.Event) {
	t.Helper()
	if is, e := replay.Fits(c, p, l[:len(l)-1]); !is || e != api.OK {
		t.Fatalf("without its last event %v does not fit", l)
	}
	k := r.Intn(len(l))
	e := l[k]
	rest := slices.Delete(slices.Clone(l), k, k+1)
	to := r.Intn(k + 1)
	if e.What == api.Return {
		to = k + r.Intn(len(rest)-k+1)
	}
	moved := slices.Insert(rest, to, e)
	if !of(c, p, withMarks(moved)) {
		return
	}
	if is, n := replay.Fits(c, p, moved); !is || n != api.OK {
		t.Fatalf("%v fits, %v does not", l, moved)
	}
}

// P28.6: one by one.
func TestOneByOne(t *testing.T) {
	for seed := range 400 {
		r := rand.New(rand.NewSource(int64(seed)))
		c := configs(r)
		p := turns.Programs(r.Intn, c, 6)
		m, _ := model.New(c)
		var l []api.Event
		calls := make([]int, c.Tasks)
		want := true
		for range r.Intn(13) {
			task := r.Intn(c.Tasks)
			if task >= len(p) || calls[task] >= len(p[task]) {
				continue
			}
			a := m.Do(task, p[task][calls[task]])
			if r.Intn(15) == 0 {
				a.Found = !a.Found
				want = false
			}
			l = append(l, api.Event{What: api.Invoke, Task: task, Call: calls[task]}, api.Event{What: api.Return, Task: task, Call: calls[task], Answer: a})
			calls[task]++
		}
		if len(l) > 24 {
			l = l[:24]
			continue
		}
		if is, e := replay.Fits(c, p, l); is != want || e != api.OK {
			t.Fatalf("%v: %v, %v", l, is, e)
		}
	}
}

// P28.2: errors, in their row.
func TestFitsErrors(t *testing.T) {
	c := api.Config{Tasks: 2, Active: 2, Keys: 2, Depth: 2, TS: 5, KeyLen: 1, ValLen: 1, Fan: 3}
	many := make([]api.Call, 20)
	for k := range many {
		many[k] = api.Call{Kind: api.Vacuum}
	}
	p := [][]api.Call{many, many}
	var l []api.Event
	for k := range 13 {
		l = append(l, api.Event{What: api.Invoke, Call: k}, api.Event{What: api.Return, Call: k})
	}
	if is, e := replay.Fits(c, p, l[:24]); !is || e != api.OK {
		t.Error("24 events:", is, e)
	}
	if is, e := replay.Fits(c, p, l[:25]); is || e != api.ErrTooLarge {
		t.Error("25 events:", is, e)
	}
	if is, e := replay.Fits(c, p, make([]api.Event, 25)); is || e != api.ErrTooLarge {
		t.Error("the row of the errors:", is, e)
	}
	if is, e := replay.Fits(c, p, nil); !is || e != api.OK {
		t.Error("no events:", is, e)
	}
	inv := api.Event{What: api.Invoke}
	for k, x := range [][]api.Event{
		{inv, {What: api.Mark}},
		{inv, {What: api.Mark}, {What: api.Return}},
		{inv, inv},
		{{What: api.Return}},
		{{What: api.Invoke, Call: 1}},
		{{What: api.Invoke, Task: 2}},
		{{What: api.Invoke, Task: -1}},
		{{What: 0}}, {{What: 4}}, {inv, {What: api.Return, Call: 1}},
		{{What: api.Invoke, Answer: api.Answer{Found: true}}},
		{{What: api.Return, Task: 5}}, {{What: api.Return, Task: -1, Call: -1}},
	} {
		if is, e := replay.Fits(c, p, x); is || e != api.ErrForm {
			t.Errorf("%d: %v, %v", k, is, e)
		}
	}
	if is, e := replay.Fits(c, [][]api.Call{{}, many}, []api.Event{inv}); is || e != api.ErrForm {
		t.Error("a call that is none of the program:", is, e)
	}
}

// P28.2: as many ways as there may be.
func TestManyWays(t *testing.T) {
	c := api.Config{Tasks: 6, Active: 6, Keys: 9, Depth: 4, TS: 9, KeyLen: 1, ValLen: 1, Fan: 3}
	var p [][]api.Call
	for k := range 6 {
		p = append(p, []api.Call{{Kind: api.Begin}, {Kind: api.Vacuum}, {Kind: api.Put, Tx: 1, Key: string(rune('a' + k))}})
	}
	var l []api.Event
	for call := range 2 {
		for task := range 6 {
			l = append(l, api.Event{What: api.Invoke, Task: task, Call: call})
		}
		for task := range 6 {
			l = append(l, api.Event{What: api.Return, Task: task, Call: call})
		}
	}
	if is, e := replay.Fits(c, p, l); !is || e != api.OK {
		t.Error(is, e)
	}
	l[23].Answer.Err = api.Full
	if is, e := replay.Fits(c, p, l); is || e != api.OK {
		t.Error(is, e)
	}
	p = nil
	for k := range 4 {
		p = append(p, []api.Call{{Kind: api.Begin}, {Kind: api.Put, Tx: 1, Key: string(rune('a' + k))}, {Kind: api.Commit, Tx: 1}})
	}
	l = nil
	for call := range 3 {
		for task := range 4 {
			l = append(l, api.Event{What: api.Invoke, Task: task, Call: call})
			if call > 0 {
				l = append(l[:len(l)-1], api.Event{What: api.Return, Task: task, Call: call - 1}, l[len(l)-1])
			}
		}
	}
	for task := range 4 {
		l = append(l, api.Event{What: api.Return, Task: task, Call: 2})
	}
	if is, e := replay.Fits(c, p, l); !is || e != api.OK {
		t.Error(is, e)
	}
	l[23].Answer.Err = api.Conflict
	if is, e := replay.Fits(c, p, l); is || e != api.OK {
		t.Error(is, e)
	}
}

// P28.2: rows of Marks that come to the same versions, but to unlike snapshots, or other transactions' states.
func TestUnlikeSnapshots(t *testing.T) {
	c := api.Config{Tasks: 2, Active: 2, Keys: 2, Depth: 3, TS: 5, KeyLen: 1, ValLen: 1, Fan: 3}
	writer := []api.Call{{Kind: api.Begin}, {Kind: api.Put, Tx: 1, Key: "a", Value: "1"}, {Kind: api.Commit, Tx: 1}}
	reader := []api.Call{{Kind: api.Begin}, {Kind: api.Get, Tx: 1, Key: "a"}}
	found, full := api.Answer{Found: true, Value: "1"}, api.Answer{Err: api.Full}
	for w := range 2 {
		r := 1 - w
		p := [][]api.Call{writer, reader}
		if w == 1 {
			p = [][]api.Call{reader, writer}
		}
		event := func(what uint8, task, call int, a api.Answer) api.Event {
			return api.Event{What: what, Task: task, Call: call, Answer: a}
		}
		history := func(begun, read api.Answer) []api.Event {
			none := api.Answer{}
			l := []api.Event{event(1, w, 0, none), event(3, w, 0, none), event(1, w, 1, none), event(3, w, 1, none)}
			l = append(l, event(1, w, 2, none), event(1, r, 0, none), event(3, w, 2, none), event(3, r, 0, begun))
			return append(l, event(1, r, 1, none), event(3, r, 1, read))
		}
		for k, x := range []struct {
			active      int
			begun, read api.Answer
			want        bool
		}{
			{2, api.Answer{}, found, true}, {2, api.Answer{}, api.Answer{}, true}, {2, api.Answer{}, api.Answer{Found: true, Value: "2"}, false},
			{1, api.Answer{}, found, true}, {1, api.Answer{}, api.Answer{}, false},
			{1, full, api.Answer{Err: api.NoTxn}, true}, {1, full, found, false}, {2, full, api.Answer{Err: api.NoTxn}, false},
		} {
			c.Active = x.active
			if is, e := replay.Fits(c, p, history(x.begun, x.read)); is != x.want || e != api.OK {
				t.Errorf("the writer %d, %d: %v, %v", w, k, is, e)
			}
		}
	}
}

// R1: what is handed in stays; what is told shares no memory.
func TestApart(t *testing.T) {
	c := api.Config{Tasks: 1, Active: 1, Keys: 2, Depth: 2, TS: 5, KeyLen: 1, ValLen: 1, Fan: 3}
	p := [][]api.Call{{{Kind: api.Begin}, {Kind: api.Put, Tx: 1, Key: "a", Value: "1"}, {Kind: api.Scan, Tx: 1, Limit: 5}}}
	l := run(c, p, make([]int, 9))
	before := slices.Clone(l)
	got := replay.Answers(c, p, l)
	m, _ := replay.Model(c, p, l)
	replay.Check(c, p, l)
	replay.Fits(c, p, event.Bare(l))
	if !event.Same(l, before) || len(got) != 3 {
		t.Fatal(l, got)
	}
	got[2].Answer.Pairs[0].Value = "changed"
	m.Do(0, api.Call{Kind: api.Put, Tx: 1, Key: "a", Value: "2"})
	if !event.Same(l, before) || l[8].Answer.Pairs[0].Value != "1" || replay.Answers(c, p, l)[2].Answer.Pairs[0].Value != "1" {
		t.Error("memory is shared:", l)
	}
}

func TestExamples(t *testing.T) {
	c := api.Config{Tasks: 2, Active: 2, Keys: 2, Depth: 2, TS: 5, KeyLen: 1, ValLen: 1, Fan: 3}
	p := [][]api.Call{{{Kind: api.Begin}, {Kind: api.Put, Tx: 1, Key: "a"}}, {{Kind: api.Begin}, {Kind: api.Get, Tx: 1, Key: "a"}}}
	l := run(c, p, []int{0, 0, 0, 0, 0, 0, 1, 1, 1, 1, 1, 1})
	if at, e := replay.Check(c, p, l); at != -1 || e != api.OK {
		t.Error(at, e)
	}
	l[11].Answer.Found = true
	if at, e := replay.Check(c, p, l); at != 11 || e != api.ErrState {
		t.Error(at, e)
	}
	early := []api.Event{{What: api.Invoke, Task: 1, Call: 1}}
	if at, e := replay.Check(c, p, early); at != 0 || e != api.ErrForm {
		t.Error(at, e)
	}
	c.Active = 1
	for _, x := range []struct {
		a, b api.Errno
		want bool
	}{{api.OK, api.Full, true}, {api.Full, api.OK, true}, {api.OK, api.OK, false}, {api.Full, api.Full, false}} {
		two := []api.Event{{What: 1}, {What: 1, Task: 1}, {What: 3, Answer: api.Answer{Err: x.a}}, {What: 3, Task: 1, Answer: api.Answer{Err: x.b}}}
		if is, e := replay.Fits(c, p, two); is != x.want || e != api.OK {
			t.Error(x, is, e)
		}
	}
	if strings.Contains(fmt.Sprint(replay.Answers(c, p, early)), "1") {
		t.Error("of a history that is not of the programs")
	}
}
