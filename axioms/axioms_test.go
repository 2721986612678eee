package axioms_test

import (
	"fmt"
	"math"
	"math/rand"
	"slices"
	"testing"

	"ferryman/api"
	"ferryman/axioms"
	"ferryman/compile"
	"ferryman/event"
	"ferryman/replay"
	"ferryman/store"
	"ferryman/turns"
)

// configs are such by which transactions meet one another.
func configs(r *rand.Rand) api.Config {
	c := turns.Config(r.Intn)
	c.Keys = 2 + r.Intn(4)
	return c
}

// run is a history by choices, as the model answers.
func run(c api.Config, programs [][]api.Call, choices []int) []api.Event {
	l, _ := compile.Free(c, programs, choices)
	return l
}

func sameAnswer(a, b api.Answer) bool {
	return a.Err == b.Err && a.Found == b.Found && a.Value == b.Value && slices.Equal(a.Pairs, b.Pairs)
}

func same(a, b axioms.Txn) bool {
	return a.Task == b.Task && a.N == b.N && a.First == b.First && a.Last == b.Last && a.Begin == b.Begin && a.End == b.End && a.Committed == b.Committed &&
		slices.EqualFunc(a.Ops, b.Ops, func(x, y axioms.Op) bool { return x.Call == y.Call && sameAnswer(x.Answer, y.Answer) })
}

// txns tells by the words the transactions of a history: task by task, then by their Begins.
func txns(c api.Config, programs [][]api.Call, l []api.Event) []axioms.Txn {
	var all []axioms.Txn
	told := map[event.Place]api.Answer{} // what the model tells of calls that have a Mark
	for _, d := range replay.Answers(c, programs, l) {
		told[event.Place{Task: d.Task, Call: d.Call}] = d.Answer
	}
	for task := range c.Tasks {
		mine := []*axioms.Txn{}
		marks := map[int]int{}
		end := func(call int, x api.Call, a api.Answer) {
			if x.Tx < 1 || x.Tx > len(mine) || x.Kind != api.Commit && x.Kind != api.Abort {
				return
			}
			t := mine[x.Tx-1]
			if a.Err == api.OK || a.Err == api.Exhausted && x.Kind == api.Commit {
				t.Last, t.End, t.Committed = call, marks[call], x.Kind == api.Commit && a.Err == api.OK
			}
		}
		under := -1
		for k, e := range l {
			if e.Task != task {
				continue
			}
			x := programs[task][e.Call]
			switch e.What {
			case api.Mark:
				marks[e.Call], under = k, e.Call
			case api.Return:
				under = -1
				switch {
				case x.Kind == api.Begin && e.Answer.Err == api.OK:
					mine = append(mine, &axioms.Txn{Task: task, N: len(mine) + 1, First: e.Call, Last: -1, Begin: marks[e.Call], End: -1})
				case x.Kind >= api.Get && x.Kind <= api.Scan && e.Answer.Err == api.OK && x.Tx >= 1 && x.Tx <= len(mine):
					mine[x.Tx-1].Ops = append(mine[x.Tx-1].Ops, axioms.Op{Call: x, Answer: e.Answer})
				default:
					end(e.Call, x, e.Answer)
				}
			}
		}
		if under >= 0 {
			end(under, programs[task][under], told[event.Place{Task: task, Call: under}])
		}
		for _, t := range mine {
			all = append(all, *t)
		}
	}
	slices.SortFunc(all, func(a, b axioms.Txn) int { return a.Begin - b.Begin })
	return all
}

// P29.1, P29.3, P29.6: of right histories, their beginnings, and such as are not right.
func TestTxns(t *testing.T) {
	all, ops := 0, 0
	for seed := range 800 {
		r := rand.New(rand.NewSource(int64(seed)))
		c := configs(r)
		p := turns.Programs(r.Intn, c, 20)
		l := run(c, p, turns.Picks(r.Intn, c, r.Intn(200)))
		got, e := axioms.Txns(c, p, l)
		if want := txns(c, p, l); e != api.OK || !slices.EqualFunc(got, want, same) {
			t.Fatalf("%v:\n%+v, not\n%+v, %v", l, got, want, e)
		}
		if !axioms.Holds(got) || !axioms.Session(got) || !axioms.Prefix(got) || !axioms.NoConflict(got) {
			t.Fatalf("%v: %+v", l, got)
		}
		all += len(got)
		n := r.Intn(len(l) + 1)
		first, _ := axioms.Txns(c, p, l[:n])
		if len(first) > len(got) {
			t.Fatal("more of a beginning")
		}
		for k, x := range first {
			ops += len(x.Ops)
			whole := find(got, x)
			if whole < 0 || len(x.Ops) > len(got[whole].Ops) || !slices.EqualFunc(x.Ops, got[whole].Ops[:len(x.Ops)], func(a, b axioms.Op) bool { return a.Call == b.Call && sameAnswer(a.Answer, b.Answer) }) {
				t.Fatalf("the %d-th of a beginning: %+v", k, x)
			}
		}
		for k := range l { // answers that the model does not tell
			if e := &l[k]; e.What == api.Return && r.Intn(4) == 0 {
				e.Answer.Err = []api.Errno{0, 0, api.Exhausted, api.Conflict, api.Done}[r.Intn(5)]
			}
		}
		got, e = axioms.Txns(c, p, l)
		if want := txns(c, p, l); e != api.OK || !slices.EqualFunc(got, want, same) {
			t.Fatalf("not right: %v:\n%+v, not\n%+v, %v", l, got, want, e)
		}
	}
	if all < 1000 || ops < 800 {
		t.Error("too few:", all, ops)
	}
}

func find(l []axioms.Txn, x axioms.Txn) int {
	return slices.IndexFunc(l, func(y axioms.Txn) bool {
		return x.Task == y.Task && x.N == y.N && x.First == y.First && x.Begin == y.Begin
	})
}

// P29.4: of each history that a store has.
func TestOfTheStore(t *testing.T) {
	for seed := range 120 {
		r := rand.New(rand.NewSource(int64(seed)))
		c := configs(r)
		p := turns.Programs(r.Intn, c, 30)
		s, _ := store.New(c, uint8(1+seed%2), p)
		s.Run(turns.Picks(r.Intn, c, r.Intn(3000)))
		got, e := axioms.Txns(c, p, s.Events())
		if e != api.OK || !axioms.Holds(got) {
			t.Fatalf("%+v, %v", got, e)
		}
	}
}

// P29.5: one of the reads was answered otherwise.
func TestOneAnswer(t *testing.T) {
	tried := 0
	for seed := range 800 {
		r := rand.New(rand.NewSource(int64(seed)))
		c := configs(r)
		p := turns.Programs(r.Intn, c, 20)
		l := run(c, p, turns.Picks(r.Intn, c, 200))
		var reads []int
		for k, e := range l {
			if kind := p[e.Task][e.Call].Kind; e.What == api.Return && e.Answer.Err == api.OK && (kind == api.Get || kind == api.Scan) {
				reads = append(reads, k)
			}
		}
		for _, k := range reads {
			was := l[k].Answer
			l[k].Answer = otherwise(r, p[l[k].Task][l[k].Call].Kind, was)
			if sameAnswer(was, l[k].Answer) {
				continue
			}
			tried++
			got, _ := axioms.Txns(c, p, l)
			holds := true
			for i, x := range got {
				holds = holds && axioms.Int(x) && axioms.Ext(got, i)
			}
			if holds || axioms.Holds(got) {
				t.Fatalf("%+v was answered %+v, not %+v: %+v", p[l[k].Task][l[k].Call], l[k].Answer, was, got)
			}
			l[k].Answer = was
		}
	}
	if tried < 1000 {
		t.Error("too few:", tried)
	}
}

// otherwise is another answer of a Get, or a Scan.
func otherwise(r *rand.Rand, kind uint8, a api.Answer) api.Answer {
	if kind == api.Get {
		if r.Intn(2) == 0 && a.Found {
			a.Value += "x"
		} else if a.Found = !a.Found; !a.Found {
			a.Value = ""
		}
		return a
	}
	a.Pairs = slices.Clone(a.Pairs)
	n := len(a.Pairs)
	switch k := r.Intn(5); {
	case n == 0 || k == 0:
		a.Pairs = append(a.Pairs, api.Pair{Key: string(rune('a' + r.Intn(6))), Value: "1"})
	case k == 1:
		a.Pairs = slices.Delete(a.Pairs, 0, 1)
	case k == 2:
		a.Pairs = a.Pairs[:n-1]
	case k == 3:
		a.Pairs[r.Intn(n)].Value += "x"
	default:
		i, j := r.Intn(n), r.Intn(n)
		a.Pairs[i], a.Pairs[j] = a.Pairs[j], a.Pairs[i]
	}
	return a
}

// P29.1: errors.
func TestErrors(t *testing.T) {
	c := api.Config{Tasks: 1, Active: 1, Keys: 1, Depth: 2, TS: 1, KeyLen: 1, Fan: 3}
	for k, x := range []struct {
		c    api.Config
		p    [][]api.Call
		l    []api.Event
		want api.Errno
	}{
		{api.Config{}, nil, nil, api.ErrArg},
		{c, [][]api.Call{nil, nil}, []api.Event{{What: 9}}, api.ErrArg},
		{c, [][]api.Call{make([]api.Call, 65)}, nil, api.ErrArg},
		{c, nil, []api.Event{{What: api.Invoke}}, api.ErrForm},
		{c, [][]api.Call{{{Kind: api.Begin}}}, []api.Event{{What: api.Mark}}, api.ErrForm},
		{c, nil, nil, api.OK},
	} {
		if got, e := axioms.Txns(x.c, x.p, x.l); len(got) != 0 || e != x.want {
			t.Errorf("%d: %v, %v", k, got, e)
		}
	}
}

// ops for lists that no history tells.
func get(key, value string) axioms.Op {
	return axioms.Op{Call: api.Call{Kind: api.Get, Key: key}, Answer: api.Answer{Found: value != "", Value: value}}
}

func put(key, value string) axioms.Op {
	return axioms.Op{Call: api.Call{Kind: api.Put, Key: key, Value: value}}
}

func del(key string, found bool) axioms.Op {
	return axioms.Op{Call: api.Call{Kind: api.Delete, Key: key}, Answer: api.Answer{Found: found}}
}

func scan(from, end string, limit int, pairs ...string) axioms.Op {
	o := axioms.Op{Call: api.Call{Kind: api.Scan, Key: from, End: end, Limit: limit}}
	for k := 0; k+1 < len(pairs); k += 2 {
		o.Answer.Pairs = append(o.Answer.Pairs, api.Pair{Key: pairs[k], Value: pairs[k+1]})
	}
	return o
}

func failed(o axioms.Op) axioms.Op {
	o.Answer.Err = api.Conflict
	return o
}

func txn(task, first, last, begin, end int, ops ...axioms.Op) axioms.Txn {
	return axioms.Txn{Task: task, N: 1, First: first, Last: last, Begin: begin, End: end, Committed: end >= 0, Ops: ops}
}

// any1 is some list of transactions.
func any1(r *rand.Rand) []axioms.Txn {
	var l []axioms.Txn
	key := func() string { return string(rune('a' + r.Intn(3))) }
	value := func() string { return []string{"", "1", "2"}[r.Intn(3)] }
	for range 1 + r.Intn(4) {
		x := axioms.Txn{Task: r.Intn(2), First: r.Intn(5), Last: r.Intn(8) - 1, Begin: r.Intn(9), End: r.Intn(10) - 1, Committed: r.Intn(3) > 0}
		for range r.Intn(5) {
			var o axioms.Op
			switch r.Intn(6) {
			case 0, 1:
				o = get(key(), value())
			case 2, 3:
				o = put(key(), value())
			case 4:
				o = del(key(), r.Intn(2) == 0)
			case 5:
				o = scan([]string{"", "a", "b"}[r.Intn(3)], []string{"", "b", "c"}[r.Intn(3)], r.Intn(4)-r.Intn(20)/19, []string{"a", value(), key(), value()}[:2*r.Intn(3)]...)
			}
			if r.Intn(12) == 0 {
				o = failed(o)
			}
			if r.Intn(20) == 0 {
				o.Call.Kind = uint8(r.Intn(12))
			}
			x.Ops = append(x.Ops, o)
		}
		l = append(l, x)
	}
	return l
}

// wrote tells by the words what a transaction wrote of a key, by its first n ops.
func wrote(x axioms.Txn, n int, key string) (value string, tomb, is bool) {
	for _, o := range x.Ops[:n] {
		if o.Answer.Err != api.OK || o.Call.Key != key {
			continue
		}
		if o.Call.Kind == api.Put {
			value, tomb, is = o.Call.Value, false, true
		} else if o.Call.Kind == api.Delete && o.Answer.Found {
			value, tomb, is = "", true, true
		}
	}
	return value, tomb, is
}

var keys = []string{"", "a", "b", "c", "d"}

func writes(x axioms.Txn) []axioms.Last {
	var l []axioms.Last
	for _, key := range keys {
		if value, tomb, is := wrote(x, len(x.Ops), key); is {
			l = append(l, axioms.Last{Key: key, Tomb: tomb, Value: value})
		}
	}
	return l
}

// visible tells by the words who is visible to the one at place k.
func visible(l []axioms.Txn, k int) []int {
	var out []int
	for i, x := range l {
		if x.Committed && len(writes(x)) > 0 && x.End < l[k].Begin {
			at := len(out)
			for at > 0 && l[out[at-1]].End > x.End {
				at--
			}
			out = slices.Insert(out, at, i)
		}
	}
	return out
}

// sees tells by the words what a transaction sees of a key, ahead of its n-th op; and whether that is its own.
func sees(l []axioms.Txn, k, n int, key string) (value string, found, own bool) {
	if value, tomb, is := wrote(l[k], n, key); is {
		return value, !tomb, true
	}
	for _, i := range visible(l, k) {
		if v, tomb, is := wrote(l[i], len(l[i].Ops), key); is {
			value, found = v, !tomb
		}
	}
	return value, found, false
}

// intExt tells by the words whether INT, and EXT, hold of the one at place k.
func intExt(l []axioms.Txn, k int) (ints, exts bool) {
	ints, exts = true, true
	wrong := func(own bool) {
		ints = ints && !own
		exts = exts && own
	}
	for n, o := range l[k].Ops {
		a, c := o.Answer, o.Call
		if a.Err != api.OK {
			continue
		}
		if c.Kind == api.Get {
			if value, found, own := sees(l, k, n, c.Key); a.Found != found || a.Value != value {
				wrong(own)
			}
		}
		if c.Kind != api.Scan {
			continue
		}
		for i, p := range a.Pairs {
			if value, found, own := sees(l, k, n, p.Key); !found || value != p.Value {
				wrong(own)
			}
			if p.Key < c.Key || c.End != "" && p.Key >= c.End || i > 0 && a.Pairs[i-1].Key >= p.Key || len(a.Pairs) > c.Limit {
				wrong(false)
			}
		}
		for _, key := range keys {
			_, found, own := sees(l, k, n, key)
			if !found || key < c.Key || c.End != "" && key >= c.End {
				continue
			}
			told := slices.ContainsFunc(a.Pairs, func(p api.Pair) bool { return p.Key == key })
			if m := len(a.Pairs); !told && (m < c.Limit || m > 0 && key < a.Pairs[m-1].Key) {
				wrong(own)
			}
		}
	}
	return ints, exts
}

// P29.1, P29.2: of whatever list of transactions.
func TestWhateverList(t *testing.T) {
	told := map[string]int{}
	count := func(what string, is bool) {
		told[fmt.Sprint(what, is)]++
	}
	for seed := range 15000 {
		r := rand.New(rand.NewSource(int64(seed)))
		l := any1(r)
		before := fmt.Sprint(l)
		session, prefix, conflict, all := true, true, true, true
		places := map[int]int{}
		for i, x := range l {
			if got := axioms.Wrote(x); !slices.Equal(got, writes(x)) {
				t.Fatalf("Wrote(%+v): %v, not %v", x, got, writes(x))
			}
			if got := axioms.Visible(l, i); !slices.Equal(got, visible(l, i)) {
				t.Fatalf("Visible(%+v, %d): %v, not %v", l, i, got, visible(l, i))
			}
			ints, exts := intExt(l, i)
			if axioms.Int(x) != ints || axioms.Ext(l, i) != exts {
				t.Fatalf("%+v, %d: INT %v, EXT %v, not %v, %v", l, i, axioms.Int(x), axioms.Ext(l, i), ints, exts)
			}
			all = all && ints && exts
			count("INT", ints)
			count("EXT", exts)
			places[x.Begin]++
			if x.Committed && len(writes(x)) > 0 {
				places[x.End]++
			}
			for k, y := range l {
				if i == k {
					continue
				}
				session = session && !(x.Committed && x.Task == y.Task && x.Last < y.First && x.End >= y.Begin)
				shared := slices.ContainsFunc(writes(x), func(a axioms.Last) bool {
					return slices.ContainsFunc(writes(y), func(b axioms.Last) bool { return a.Key == b.Key })
				})
				conflict = conflict && !(x.Committed && y.Committed && shared && x.End >= y.Begin && y.End >= x.Begin)
			}
			if x.Committed && x.Last < x.First && x.End >= x.Begin { // it was committed ahead of its own beginning: nothing is said of that
				session = axioms.Session(l)
			}
		}
		for _, n := range places {
			prefix = prefix && n == 1
		}
		if axioms.Session(l) != session || axioms.Prefix(l) != prefix || axioms.NoConflict(l) != conflict {
			t.Fatalf("%+v: SESSION %v, PREFIX %v, NOCONFLICT %v", l, axioms.Session(l), axioms.Prefix(l), axioms.NoConflict(l))
		}
		if axioms.Holds(l) != (all && session && prefix && conflict) {
			t.Fatalf("%+v: Holds %v", l, axioms.Holds(l))
		}
		count("SESSION", session)
		count("PREFIX", prefix)
		count("NOCONFLICT", conflict)
		count("Holds", axioms.Holds(l))
		if fmt.Sprint(l) != before {
			t.Fatal("what was handed in is otherwise now")
		}
	}
	for _, what := range []string{"INT", "EXT", "SESSION", "PREFIX", "NOCONFLICT", "Holds"} {
		for _, is := range []bool{true, false} {
			if told[fmt.Sprint(what, is)] < 100 {
				t.Errorf("%s %v: %d times", what, is, told[fmt.Sprint(what, is)])
			}
		}
	}
}

// P29.2: each axiom alone, by hand.
func TestByHand(t *testing.T) {
	first := txn(0, 0, 2, 1, 5, put("a", "1"), put("b", "2"), del("c", true))
	check := func(what string, got, want bool) {
		t.Helper()
		if got != want {
			t.Errorf("%s: %v", what, got)
		}
	}
	ext := func(what string, want bool, begin int, ops ...axioms.Op) {
		t.Helper()
		check(what, axioms.Ext([]axioms.Txn{first, txn(1, 0, -1, begin, -1, ops...)}, 1), want)
	}
	ext("what is visible", true, 6, get("a", "1"), get("b", "2"), get("c", ""), get("d", ""))
	ext("what is not visible", false, 5, get("a", "1"))
	ext("nothing, ahead of that", true, 5, get("a", ""))
	ext("another value", false, 6, get("a", "2"))
	ext("a tomb", false, 6, get("c", "1"))
	ext("all, in row", true, 6, scan("", "", 9, "a", "1", "b", "2"))
	ext("not in row", false, 6, scan("", "", 9, "b", "2", "a", "1"))
	ext("one is left out", false, 6, scan("", "", 9, "b", "2"))
	ext("the last one is left out", false, 6, scan("", "", 9, "a", "1"))
	ext("by the Limit", true, 6, scan("", "", 1, "a", "1"))
	ext("above the Limit", false, 6, scan("", "", 1, "a", "1", "b", "2"))
	ext("of a Limit of 0", true, 6, scan("", "", 0))
	ext("of a Limit below 0", true, 6, scan("", "", -1))
	ext("from the Key on", true, 6, scan("b", "", 9, "b", "2"))
	ext("below the Key", false, 6, scan("b", "", 9, "a", "1", "b", "2"))
	ext("below the End", true, 6, scan("", "b", 9, "a", "1"))
	ext("not below the End", false, 6, scan("", "b", 9, "a", "1", "b", "2"))
	ext("twice", false, 6, scan("", "", 9, "a", "1", "a", "1", "b", "2"))
	ext("behind its own one", true, 6, put("a", "9"), get("a", "7"))
	ext("with its own one left out", true, 6, put("a", "9"), scan("", "", 9, "b", "2"))
	ext("ahead of its own one", false, 6, get("a", "9"), put("a", "9"))
	ext("one with an error", true, 6, failed(get("a", "9")), failed(scan("", "", 0, "z", "9")))
	ints := func(what string, want bool, ops ...axioms.Op) {
		t.Helper()
		check(what, axioms.Int(txn(0, 0, 1, 1, 2, ops...)), want)
	}
	ints("its own", true, put("a", "1"), get("a", "1"), put("a", "2"), get("a", "2"), del("a", true), get("a", ""))
	ints("its first one", false, put("a", "1"), put("a", "2"), get("a", "1"))
	ints("not its own tomb", false, put("a", "1"), del("a", true), get("a", "1"))
	ints("a Delete that found nothing", true, put("a", "1"), del("a", false), get("a", "1"))
	ints("one with an error", true, put("a", "1"), failed(put("a", "2")), failed(del("a", true)), get("a", "1"))
	ints("of others", true, get("b", "7"), scan("", "", 9, "c", "7"))
	ints("its own in a Scan", true, put("a", "1"), scan("", "", 9, "a", "1"))
	ints("its own is left out", false, put("a", "1"), scan("", "", 9))
	ints("its own is left out, behind the Limit", true, put("b", "1"), scan("", "", 1, "a", "7"))
	ints("its own is left out, ahead of the last one", false, put("a", "1"), scan("", "", 1, "b", "7"))
	ints("its own is out of the Scan's part", true, put("a", "1"), scan("b", "", 9))
	ints("its own tomb is told", false, put("a", "1"), del("a", true), scan("", "", 9, "a", "1"))
	ints("in row, and Limit, are asked by EXT alone", true, put("a", "1"), scan("b", "", 1, "c", "7", "b", "7", "a", "1"))
	session := func(what string, want bool, l ...axioms.Txn) {
		t.Helper()
		check(what, axioms.Session(l), want)
	}
	session("one task's later one", true, first, txn(0, 3, -1, 6, -1))
	session("one that began ahead of the End", false, first, txn(0, 3, -1, 5, -1))
	session("another task's", true, first, txn(1, 3, -1, 4, -1))
	session("one that is not behind it", true, first, txn(0, 1, -1, 4, -1))
	session("of none that was committed", true, axioms.Txn{First: 0, Last: 2, Begin: 1, End: 5}, txn(0, 3, -1, 4, -1))
	check("one place", axioms.Prefix([]axioms.Txn{first, txn(1, 0, -1, 5, -1)}), false)
	check("two Begins of one place", axioms.Prefix([]axioms.Txn{txn(0, 0, -1, 4, -1), txn(1, 0, -1, 4, -1)}), false)
	check("Ends of those that wrote nothing", axioms.Prefix([]axioms.Txn{txn(0, 0, 1, 1, 5), txn(1, 0, 1, 2, 5)}), true)
	check("two Ends of one place", axioms.Prefix([]axioms.Txn{first, txn(1, 0, 1, 2, 5, put("z", "1"))}), false)
	check("overlap", axioms.NoConflict([]axioms.Txn{first, txn(1, 0, 1, 5, 9, put("b", "1"))}), false)
	check("one behind the other", axioms.NoConflict([]axioms.Txn{first, txn(1, 0, 1, 6, 9, put("b", "1"))}), true)
	check("tombs", axioms.NoConflict([]axioms.Txn{txn(1, 0, 1, 0, 9, put("c", "1")), first}), false)
	check("other keys", axioms.NoConflict([]axioms.Txn{first, txn(1, 0, 1, 5, 9, put("z", "1"))}), true)
	check("not committed", axioms.NoConflict([]axioms.Txn{first, {Begin: 2, End: 9, Ops: []axioms.Op{put("a", "1")}}}), true)
	both := []axioms.Txn{first, txn(1, 0, 1, 0, 5, put("a", "8")), txn(2, 0, 1, 9, -1)}
	if got := axioms.Visible(both, 2); !slices.Equal(got, []int{0, 1}) {
		t.Error("those of one End, in the row in which they are handed in:", got)
	}
	if itself := []axioms.Txn{txn(0, 0, 1, 9, 2, put("a", "1"))}; !slices.Equal(axioms.Visible(itself, 0), []int{0}) {
		t.Error("to itself")
	}
}

// P29.1, P29.2: no place; no list; memory.
func TestNothing(t *testing.T) {
	l := []axioms.Txn{txn(0, 0, 1, 1, 2, get("a", "wrong"))}
	for _, k := range []int{math.MinInt, -1, 1, math.MaxInt} {
		if !axioms.Ext(l, k) || len(axioms.Visible(l, k)) != 0 {
			t.Error("no place:", k)
		}
	}
	if !axioms.Holds(nil) || !axioms.Session(nil) || !axioms.Prefix(nil) || !axioms.NoConflict(nil) || !axioms.Int(axioms.Txn{}) || len(axioms.Wrote(axioms.Txn{})) != 0 {
		t.Error("of nothing")
	}
	c := api.Config{Tasks: 1, Active: 1, Keys: 2, Depth: 2, TS: 5, KeyLen: 1, ValLen: 1, Fan: 3}
	p := [][]api.Call{{{Kind: api.Begin}, {Kind: api.Put, Tx: 1, Key: "a", Value: "1"}, {Kind: api.Scan, Tx: 1, Limit: 5}}}
	h := run(c, p, make([]int, 9))
	got, _ := axioms.Txns(c, p, h)
	got[0].Ops[1].Answer.Pairs[0].Value = "changed"
	if h[8].Answer.Pairs[0].Value != "1" {
		t.Error("memory is shared")
	}
}

func TestExamples(t *testing.T) {
	c := api.Config{Tasks: 2, Active: 2, Keys: 2, Depth: 2, TS: 5, KeyLen: 1, ValLen: 1, Fan: 3}
	p := [][]api.Call{
		{{Kind: api.Begin}, {Kind: api.Put, Tx: 1, Key: "a", Value: "1"}, {Kind: api.Commit, Tx: 1}},
		{{Kind: api.Begin}, {Kind: api.Get, Tx: 1, Key: "a"}},
	}
	l := run(c, p, []int{0, 0, 0, 0, 0, 0, 0, 0, 0, 1, 1, 1, 1, 1, 1})
	got, e := axioms.Txns(c, p, l)
	if e != api.OK || len(got) != 2 || !slices.Equal(axioms.Visible(got, 1), []int{0}) || !axioms.Holds(got) {
		t.Error(got, e)
	}
	if w := axioms.Wrote(got[0]); !slices.Equal(w, []axioms.Last{{Key: "a", Value: "1"}}) {
		t.Error(w)
	}
	l[14].Answer = api.Answer{}
	got, _ = axioms.Txns(c, p, l)
	if axioms.Ext(got, 1) || !axioms.Int(got[1]) || axioms.Holds(got) {
		t.Error("not Found:", got)
	}
	l = run(c, p, []int{0, 0, 0, 0, 0, 0, 1, 1, 1, 0, 0, 0, 1, 1, 1})
	l[14].Answer = api.Answer{Found: true, Value: "1"}
	if got, _ = axioms.Txns(c, p, l); axioms.Ext(got, 1) {
		t.Error("Found:", got)
	}
}
