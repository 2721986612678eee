package script_test

import (
	"math"
	"math/rand"
	"slices"
	"strconv"
	"strings"
	"testing"

	"ferryman/api"
	"ferryman/call"
	"ferryman/event"
	"ferryman/script"
	"ferryman/store"
	"ferryman/turns"
)

// some is some script that may be.
func some(r *rand.Rand, calls, picks int) script.Script {
	x := script.Script{C: turns.Config(r.Intn), Home: uint8(1 + r.Intn(2))}
	x.Programs = turns.Programs(r.Intn, x.C, calls)
	x.Picks = turns.Picks(r.Intn, x.C, r.Intn(picks+1))
	return x
}

// shows is some script that has a text: all its calls may be.
func shows(r *rand.Rand, calls, picks int) script.Script {
	x := some(r, calls, picks)
	for k, program := range x.Programs {
		x.Programs[k] = slices.DeleteFunc(program, func(y api.Call) bool { return call.May(y) != api.OK })
	}
	return x
}

func clone(x script.Script) script.Script {
	var programs [][]api.Call
	for _, program := range x.Programs {
		programs = append(programs, slices.Clone(program))
	}
	x.Programs, x.Picks = programs, slices.Clone(x.Picks)
	return x
}

// shown tells by the words a script's text.
func shown(x script.Script) string {
	c := x.C
	s := "config"
	for _, n := range []int{c.Tasks, c.Active, c.Keys, c.Depth, c.TS, c.KeyLen, c.ValLen, c.Fan} {
		s += " " + strconv.Itoa(n)
	}
	s += "\nhome " + strconv.Itoa(int(x.Home)) + "\n"
	for _, program := range x.Programs {
		s += "task\n"
		for _, y := range program {
			s += call.Show(y) + "\n"
		}
	}
	s += "picks"
	for _, n := range x.Picks {
		s += " " + strconv.Itoa(n)
	}
	return s + "\n"
}

// clean is a script whose calls are clean.
func clean(x script.Script) script.Script {
	x = clone(x)
	for _, program := range x.Programs {
		for k := range program {
			program[k] = call.Clean(program[k])
		}
	}
	return x
}

// exact tells whether two scripts are the same, number by number.
func exact(a, b script.Script) bool {
	return a.C == b.C && a.Home == b.Home && slices.Equal(a.Picks, b.Picks) && slices.EqualFunc(a.Programs, b.Programs, func(x, y []api.Call) bool { return slices.Equal(x, y) })
}

// P32.1: scripts that may be.
func TestMay(t *testing.T) {
	c := api.Config{Tasks: 2, Active: 1, Keys: 1, Depth: 2, TS: 1, KeyLen: 1, Fan: 3}
	for k, x := range []struct {
		x    script.Script
		want bool
	}{
		{script.Script{C: c, Home: 1}, true},
		{script.Script{C: c, Home: 2, Programs: make([][]api.Call, 2), Picks: []int{0, 1}}, true},
		{script.Script{C: c, Home: 2, Programs: [][]api.Call{make([]api.Call, api.MaxCalls)}, Picks: make([]int, api.MaxPicks)}, true},
		{script.Script{}, false}, {script.Script{C: c}, false}, {script.Script{C: c, Home: 3}, false},
		{script.Script{C: api.Config{}, Home: 1}, false},
		{script.Script{C: c, Home: 1, Programs: make([][]api.Call, 3)}, false},
		{script.Script{C: c, Home: 1, Programs: [][]api.Call{make([]api.Call, api.MaxCalls+1)}}, false},
		{script.Script{C: c, Home: 1, Picks: make([]int, api.MaxPicks+1)}, false},
		{script.Script{C: c, Home: 1, Picks: []int{0, 2}}, false},
		{script.Script{C: c, Home: 1, Picks: []int{-1}}, false},
		{script.Script{C: c, Home: 1, Picks: []int{math.MaxInt, 0}}, false},
	} {
		if got := script.May(x.x); got != x.want {
			t.Errorf("%d: %v", k, got)
		}
		if s, e := script.Play(x.x); (e == api.OK) != x.want || (s != nil) != x.want || !x.want && e != api.ErrArg {
			t.Errorf("Play, %d: %v", k, e)
		}
		if s := script.Show(x.x); !x.want && s != "" {
			t.Errorf("Show, %d: %q", k, s)
		}
	}
	for _, bad := range []api.Call{{Kind: 0}, {Kind: 10}, {Kind: api.Migrate, Engine: 3}} {
		x := script.Script{C: c, Home: 1, Programs: [][]api.Call{nil, {{Kind: api.Begin}, bad}}}
		if !script.May(x) || script.Show(x) != "" {
			t.Errorf("a call that may not be: %q", script.Show(x))
		}
		if s, e := script.Play(x); s == nil || e != api.OK {
			t.Error("it may be played:", e)
		}
	}
}

// P32.1, P32.3, P32.4: texts, and back.
func TestShowParse(t *testing.T) {
	for seed := range 400 {
		r := rand.New(rand.NewSource(int64(seed)))
		x := shows(r, 20, 60)
		if seed%5 == 0 {
			for range r.Intn(3) {
				x.Programs = append(x.Programs, nil)
			}
			if x.Programs = x.Programs[:min(len(x.Programs), x.C.Tasks)]; seed%10 == 0 {
				x.Picks = nil
			}
		}
		was := clone(x)
		s := script.Show(x)
		if s != shown(x) || !exact(x, was) {
			t.Fatalf("Show: %q, not %q", s, shown(x))
		}
		got, e := script.Parse(s)
		if e != api.OK || !exact(got, clean(x)) || script.Show(got) != s || !script.Same(got, x) {
			t.Fatalf("Parse(%q): %+v, %v", s, got, e)
		}
		a, _ := script.Play(x)
		b, _ := script.Play(got)
		if !event.Same(a.Events(), b.Events()) {
			t.Fatal("another history")
		}
	}
}

// P32.3: two scripts have one text just if they are the same.
func TestSame(t *testing.T) {
	for seed := range 3000 {
		r := rand.New(rand.NewSource(int64(seed)))
		a := shows(r, 6, 8)
		b := clone(a)
		changed := otherwise(r, &b)
		if script.Same(a, b) != !changed || script.Same(b, a) != !changed || !script.Same(a, clone(a)) {
			t.Fatalf("%+v, %+v: the same %v, changed %v", a, b, !changed, changed)
		}
		if s, o := script.Show(a), script.Show(b); s != "" && o != "" && (s == o) != !changed {
			t.Fatalf("%q, %q", s, o)
		}
	}
	x := script.Script{Programs: [][]api.Call{nil}, Picks: []int{}}
	if !script.Same(x, script.Script{Programs: [][]api.Call{{}}}) || script.Same(x, script.Script{}) {
		t.Error("lists of nothing")
	}
}

// otherwise does something to a script; whether it is another one by that.
func otherwise(r *rand.Rand, x *script.Script) bool {
	n := len(x.Programs)
	k := 0
	if n > 0 {
		k = r.Intn(n)
	}
	switch r.Intn(12) {
	case 0:
		x.C.Keys++
	case 1:
		x.Home = 3 - x.Home
	case 2:
		x.Programs = append(x.Programs, nil)
	case 3:
		x.Picks = append(x.Picks, 0)
	case 4:
		if len(x.Picks) == 0 {
			return false
		}
		x.Picks[0]++
	case 5:
		if n == 0 {
			return false
		}
		x.Programs[k] = append(x.Programs[k], api.Call{Kind: api.Vacuum})
	case 6, 7, 8:
		if n == 0 || len(x.Programs[k]) == 0 {
			return false
		}
		y := &x.Programs[k][r.Intn(len(x.Programs[k]))]
		was := *y
		switch r.Intn(6) {
		case 0:
			y.Tx++
		case 1:
			y.Key += "x"
		case 2:
			y.End += "x"
		case 3:
			y.Value += "x"
		case 4:
			y.Limit++
		case 5:
			y.Engine = 3 - y.Engine
		}
		return call.Clean(*y) != call.Clean(was)
	default:
		return false
	}
	return true
}

// P32.1: what is no script's text.
func TestParseForm(t *testing.T) {
	good := "config 2 1 1 2 9 2 2 3\nhome 2\ntask\nbegin\nput 1 61 31\ntask\npicks 0 1 0\n"
	if x, e := script.Parse(good); e != api.OK || script.Show(x) != good || len(x.Programs) != 2 || len(x.Programs[0]) != 2 {
		t.Fatal(x, e)
	}
	for old, l := range map[string][]string{
		"config 2 1 1 2 9 2 2 3\n": {"", "config\n", "config 2 1 1 2 9 2 2\n", "config 2 1 1 2 9 2 2 3 3\n", "config 2 1 1 2 9 2 2 3 \n", "config  2 1 1 2 9 2 2 3\n", " config 2 1 1 2 9 2 2 3\n", "Config 2 1 1 2 9 2 2 3\n", "config 02 1 1 2 9 2 2 3\n", "config +2 1 1 2 9 2 2 3\n", "config 7 1 1 2 9 2 2 3\n", "config 2 1 1 2 9 2 2 2\n", "config 2 1 1 2 0 2 2 3\n", "config 2 1 1 2 9 2 -1 3\n", "config 2 1 1 2 9 2 -0 3\n", "config 2 1 1 2 9 2 2 x\n", "config 2 1 1 2 9 2 2 3", "\nconfig 2 1 1 2 9 2 2 3\n", "config 2 1 1 2 9 2 2 3\n\n", "config 2 1 1 2 9 2 2 3\r\n", "config 2 1 1 2 9 2 2 3\nconfig 2 1 1 2 9 2 2 3\n"},
		"home 2\n":                 {"", "home\n", "home 0\n", "home 3\n", "home 02\n", "home 258\n", "home -254\n", "home 2 2\n", "home 2 \n", "house 2\n", "home 2\nhome 2\n", "home\t2\n"},
		"task\nbegin\n":            {"begin\n", "task \nbegin\n", "task 1\nbegin\n", "tasks\nbegin\n", "task\nbegin \n", "task\nBegin\n", "task\n\nbegin\n", "task\nbegin 1\n", "task\nnone\n", "task\nmigrate 3\n", "task\nbegin\ntask\ntask\n"},
		"put 1 61 31\n":            {"put 01 61 31\n", "put 1 61\n", "put 1 61 3\n", "put 1 61 31 \n", "home 2\n"},
		"picks 0 1 0\n":            {"", "picks 0 1 0", "picks 0 1 2\n", "picks 0 1 -1\n", "picks 0 01 0\n", "picks  0 1 0\n", "picks 0 1 0 \n", "picks \n", "pick 0 1 0\n", "picks 0 1 0\n\n", "picks 0 1 0\npicks\n", "picks 0 1 0\ntask\n", "picks 0 1 0\nbegin\n", "picks 0,1\n", "picks\t0\n", "picks 0 1 0\n "},
	} {
		for _, other := range l {
			s := strings.Replace(good, old, other, 1)
			if x, e := script.Parse(s); e != api.ErrForm || !exact(x, script.Script{}) {
				t.Errorf("Parse(%q): %+v, %v", s, x, e)
			}
		}
	}
	for _, s := range []string{"", "\n", "picks\n", "config 1 1 1 2 9 2 2 3\nhome 1\npicks " + strings.Repeat("0 ", api.MaxPicks) + "0\n", "config 1 1 1 2 9 2 2 3\nhome 1\ntask\n" + strings.Repeat("begin\n", api.MaxCalls+1) + "picks\n"} {
		if x, e := script.Parse(s); e != api.ErrForm || !exact(x, script.Script{}) {
			t.Errorf("Parse of %d bytes: %v", len(s), e)
		}
	}
	for _, s := range []string{"config 1 1 1 2 9 2 2 3\nhome 1\npicks\n", "config 1 1 1 2 9 2 2 3\nhome 1\npicks" + strings.Repeat(" 0", api.MaxPicks) + "\n", "config 1 1 1 2 9 2 2 3\nhome 1\ntask\n" + strings.Repeat("begin\n", api.MaxCalls) + "picks\n"} {
		if x, e := script.Parse(s); e != api.OK || script.Show(x) != s {
			t.Errorf("Parse of %d bytes: %v", len(s), e)
		}
	}
}

// P32.3: what is parsed, shown, is the text; whatever was done to a text.
func TestTexts(t *testing.T) {
	ok := 0
	for seed := range 6000 {
		r := rand.New(rand.NewSource(int64(seed)))
		s := script.Show(shows(r, 3, 5))
		if s == "" {
			continue
		}
		for range 1 + r.Intn(2) {
			at := r.Intn(len(s))
			switch r.Intn(4) {
			case 0:
				s = s[:at] + s[at+1:]
			case 1:
				s = s[:at] + string("0123 \n-a"[r.Intn(8)]) + s[at:]
			case 2:
				s = s[:at] + string("0123 \n-a"[r.Intn(8)]) + s[at+1:]
			case 3:
				s = s[:at]
			}
			s += "\n"[:r.Intn(8)/7]
			if s == "" {
				s = " "
			}
		}
		x, e := script.Parse(s)
		if e == api.OK {
			ok++
		}
		if e == api.OK && script.Show(x) != s || e != api.OK && (e != api.ErrForm || !exact(x, script.Script{})) {
			t.Fatalf("Parse(%q): %+v, %v", s, x, e)
		}
	}
	if ok < 80 {
		t.Error("too few that are right:", ok)
	}
}

// P32.4: a script with more picks goes on from where it was.
func TestPlay(t *testing.T) {
	for seed := range 100 {
		r := rand.New(rand.NewSource(int64(seed)))
		x := some(r, 20, 1500)
		s, e := script.Play(x)
		if e != api.OK {
			t.Fatal(e)
		}
		by, _ := store.New(x.C, x.Home, x.Programs)
		by.Run(x.Picks)
		if !event.Same(s.Events(), by.Events()) {
			t.Fatal("not as the store by its picks")
		}
		n := len(x.Picks)
		less := x
		less.Picks = x.Picks[:r.Intn(n+1)]
		part, _ := script.Play(less)
		if l := part.Events(); !event.Same(s.Events()[:len(l)], l) {
			t.Fatal("the beginning is another one")
		}
		part.Run(x.Picks[len(less.Picks):])
		if !event.Same(part.Events(), s.Events()) {
			t.Fatal("it does not go on from where it was")
		}
	}
}

// P32.2, P32.5: rounds.
func TestRounds(t *testing.T) {
	for seed := range 150 {
		r := rand.New(rand.NewSource(int64(seed)))
		x := some(r, 15, 600)
		s, _ := script.Play(x)
		by, _ := script.Play(x)
		calm := 0
		for {
			under := []int{}
			for task := range x.C.Tasks {
				if _, is := by.Under(task); is {
					under = append(under, task)
				}
			}
			if len(under) == 0 {
				break
			}
			by.Run(under)
			if calm++; calm > 1<<16 {
				t.Fatal("it does not end")
			}
		}
		left := make([]int, x.C.Tasks)
		for task := range left {
			left[task] = s.Left(task)
		}
		if calm > 1 {
			part, _ := script.Play(x)
			k := r.Intn(calm)
			if a, b := script.Calm(part, x.C.Tasks, k), script.Calm(part, x.C.Tasks, 100000); a != k || b != calm-k {
				t.Fatal("by parts:", a, b, calm)
			}
		}
		if n := script.Calm(s, x.C.Tasks, 100000); n != calm || !event.Same(s.Events(), by.Events()) {
			t.Fatalf("Calm: %d, not %d", n, calm)
		}
		for task := range left {
			if _, is := s.Under(task); is || s.Left(task) != left[task] {
				t.Fatal("it invoked something, or a call is under way")
			}
		}
		finish := 0
		for did := true; did; {
			did = false
			for task := range x.C.Tasks {
				did = by.Pick(task) || did
			}
			if did {
				finish++
			}
			if finish > 1<<16 {
				t.Fatal("it does not end")
			}
		}
		if finish > 1 {
			part, _ := script.Play(x)
			script.Calm(part, x.C.Tasks, 100000)
			k := r.Intn(finish)
			if a, b := script.Finish(part, x.C.Tasks, k), script.Finish(part, 1000, 100000); a != k || b != finish-k {
				t.Fatal("by parts:", a, b, finish)
			}
		}
		if n := script.Finish(s, x.C.Tasks, 100000); n != finish || !event.Same(s.Events(), by.Events()) {
			t.Fatalf("Finish: %d, not %d", n, finish)
		}
		for task := range x.C.Tasks {
			if _, is := s.Under(task); is || s.Left(task) != 0 {
				t.Fatal("a call is left")
			}
		}
		if a, b := script.Calm(s, x.C.Tasks, 5), script.Finish(s, x.C.Tasks, 5); a != 0 || b != 0 {
			t.Fatal("behind the end:", a, b)
		}
		straight, _ := script.Play(x)
		if script.Finish(straight, x.C.Tasks, 100000); len(straight.Events()) != len(s.Events()) {
			t.Fatal("what Calm does a Finish need not do")
		}
	}
}

// P32.2: of the first tasks; of none; of nil.
func TestFirstTasks(t *testing.T) {
	c := api.Config{Tasks: 2, Active: 2, Keys: 2, Depth: 2, TS: 5, KeyLen: 1, ValLen: 1, Fan: 3}
	begin := [][]api.Call{{{Kind: api.Begin}}, {{Kind: api.Begin}, {Kind: api.Vacuum}}}
	s, _ := script.Play(script.Script{C: c, Home: 1, Programs: begin, Picks: []int{1}})
	for _, tasks := range []int{math.MinInt, -1, 0, 1} {
		if n := script.Calm(s, tasks, 100); n != 0 || len(s.Events()) != 1 {
			t.Error("no call of these is under way:", n)
		}
	}
	for _, tasks := range []int{math.MinInt, -1, 0} {
		if n := script.Finish(s, tasks, 100); n != 0 || len(s.Events()) != 1 {
			t.Error("of no tasks:", n)
		}
	}
	for _, most := range []int{math.MinInt, -1, 0} {
		if a, b := script.Calm(s, 2, most), script.Finish(s, 2, most); a != 0 || b != 0 || len(s.Events()) != 1 {
			t.Error("no rounds:", a, b)
		}
	}
	if n := script.Finish(s, 1, 100); n != 4 || s.Left(0) != 0 {
		t.Error("of the first one:", n)
	}
	if _, is := s.Under(1); !is {
		t.Error("the second one was picked")
	}
	if n := script.Calm(s, 1000, 100); n != 3 || s.Left(1) != 1 {
		t.Error("of both, and more than there are:", n)
	}
	if n := script.Finish(s, 9, 100); n != 8 || s.Left(1) != 0 {
		t.Error("of more than there are:", n)
	}
	if a, b := script.Calm(nil, 2, 5), script.Finish(nil, 2, 5); a != 0 || b != 0 {
		t.Error("of nil:", a, b)
	}
}

func TestExamples(t *testing.T) {
	x := script.Script{
		C:        api.Config{Tasks: 1, Active: 1, Keys: 1, Depth: 2, TS: 9, KeyLen: 2, ValLen: 2, Fan: 3},
		Home:     2,
		Programs: [][]api.Call{{{Kind: api.Begin}, {Kind: api.Put, Tx: 1, Key: "a", Value: "1"}}},
		Picks:    []int{0, 0},
	}
	if s := script.Show(x); s != "config 1 1 1 2 9 2 2 3\nhome 2\ntask\nbegin\nput 1 61 31\npicks 0 0\n" {
		t.Errorf("%q", s)
	}
	s, e := script.Play(x)
	if e != api.OK || len(s.Events()) != 1 || s.Events()[0].What != api.Invoke {
		t.Error(s.Events(), e)
	}
	if n := script.Calm(s, 1, 100); n != 2 || len(s.Events()) != 3 {
		t.Error(n, s.Events())
	}
	if n := script.Finish(s, 1, 100); n != 10 {
		t.Error(n)
	}
}
