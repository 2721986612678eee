package table_test

import (
	"fmt"
	"math"
	"math/rand"
	"slices"
	"sort"
	"testing"

	"ferryman/api"
	"ferryman/status"
	"ferryman/table"
	"ferryman/view"
)

func config(active, keys, depth, ts int) api.Config {
	return api.Config{Tasks: 1, Active: active, Keys: keys, Depth: depth, TS: ts, KeyLen: 4, ValLen: 4, Fan: 3}
}

func make1(t *testing.T, c api.Config, home uint8) *table.Table {
	t.Helper()
	x, e := table.New(c, home)
	if e != api.OK || x == nil {
		t.Fatalf("New: %v", e)
	}
	return x
}

func begin(t *testing.T, x *table.Table) int {
	t.Helper()
	w, e := x.Begin()
	if e != api.OK {
		t.Fatalf("Begin: %v", e)
	}
	return w
}

// list is versions of writers, the newest first; of those below 0 tombs.
func list(writers ...int) []api.Version {
	var l []api.Version
	for _, w := range writers {
		l = append(l, api.Version{Writer: max(w, -w), Tomb: w < 0})
	}
	return l
}

// told is all that a table tells, as a text.
func told(x *table.Table) string {
	s := fmt.Sprint(x.Home(), x.Floor(), x.Clock(), x.Active(), x.Keys(), x.Dead())
	for w := -1; w < 60; w++ {
		ts, has := x.TS(w)
		snapshot, is := x.Snapshot(w)
		v, active := x.View(w)
		s += fmt.Sprintf("|%d: %d %d %v %d %v %v %v %v", w, x.State(w), ts, has, snapshot, is, v, active, x.Writes(w))
	}
	return s
}

// world is rows, and what the words say of them and of their writers.
type world struct {
	c            api.Config
	x            *table.Table
	home         uint8
	state        []uint8 // of the writer n at n-1
	snap, ts     []int
	ended        [][]int // who had ended when it began
	began, over  []int   // when
	now          int
	clock, floor int
	rows         map[string][]api.Version
	wrote        []map[string]int
}

var keys = []string{"a", "b", "bb", "c", "d"}

func (o *world) is(w int) uint8 {
	if w < 1 || w > len(o.state) {
		return 0
	}
	return o.state[w-1]
}

func (o *world) busy(w int) bool { return o.is(w) == status.Active || o.is(w) == status.Falling }

// kept tells how many intents stand ahead in a row, and the versions that are kept of it.
func (o *world) kept(l []api.Version) (intents int, kept []api.Version) {
	for intents < len(l) && o.busy(l[intents].Writer) {
		intents++
	}
	for _, v := range l[intents:] {
		if o.is(v.Writer) != status.Committed || o.ts[v.Writer-1] == 0 {
			continue
		}
		v.TS = o.ts[v.Writer-1]
		if v.TS > o.floor || !v.Tomb {
			kept = append(kept, v)
		}
		if v.TS <= o.floor {
			break
		}
	}
	return intents, kept
}

// counted tells how many keys have something, and how many are dead.
func (o *world) counted() (has, dead int) {
	for _, l := range o.rows {
		_, kept := o.kept(l)
		intent := len(l) > 0 && o.is(l[0].Writer) == status.Active
		if intent || len(kept) > 0 {
			has++
		}
		if !intent && len(kept) > 0 && kept[0].Tomb {
			dead++
		}
	}
	return has, dead
}

// judged tells by S2, and S4, what a Put, or a Delete, comes to.
func (o *world) judged(w int, key string, tomb bool) table.Judged {
	if o.is(w) == 0 {
		return table.Judged{Err: api.ErrNone}
	}
	if o.is(w) != status.Active {
		return table.Judged{Err: api.ErrState}
	}
	l, off := o.rows[key], false
	if len(l) > 0 && o.is(l[0].Writer) == status.Falling {
		l, off = l[1:], true
	}
	if len(l) > 0 && l[0].Writer != w && o.busy(l[0].Writer) {
		return table.Judged{Err: api.Conflict}
	}
	_, kept := o.kept(l)
	if len(kept) > 0 && kept[0].TS > o.snap[w-1] {
		return table.Judged{Err: api.Conflict}
	}
	own := len(l) > 0 && l[0].Writer == w
	found := own && !l[0].Tomb
	if !own {
		for _, v := range kept {
			if v.TS <= o.snap[w-1] {
				found = !v.Tomb
				break
			}
		}
	}
	if tomb && !found {
		return table.Judged{}
	}
	if has, _ := o.counted(); !own && (len(kept) == 0 && has == o.c.Keys || len(kept) == o.c.Depth) {
		return table.Judged{Err: api.Full}
	}
	return table.Judged{Found: tomb, Write: true, Own: own, Off: off, Keep: len(kept), Home: o.home}
}

func (o *world) begin(t *testing.T) {
	active := 0
	var ended []int
	for k, s := range o.state {
		if s == status.Active {
			active++
		}
		if s == status.Committed || s == status.Aborted {
			ended = append(ended, k+1)
		}
	}
	w, e := o.x.Begin()
	if active == o.c.Active {
		if w != 0 || e != api.Full {
			t.Fatalf("Begin of %d: %d, %v", active, w, e)
		}
		return
	}
	o.state, o.snap, o.ts, o.ended = append(o.state, status.Active), append(o.snap, o.clock), append(o.ts, 0), append(o.ended, ended)
	o.began, o.over, o.wrote = append(o.began, o.now), append(o.over, 0), append(o.wrote, map[string]int{})
	if w != len(o.state) || e != api.OK {
		t.Fatalf("Begin: %d, %v", w, e)
	}
}

func (o *world) judge(t *testing.T, w int, key string, tomb bool) {
	want, l := o.judged(w, key, tomb), slices.Clone(o.rows[key])
	handed := slices.Clone(l)
	got := o.x.Judge(w, key, handed, tomb)
	if got != want {
		t.Fatalf("Judge(%d, %s, %v, %v): %+v, not %+v", w, key, l, tomb, got, want)
	}
	if !slices.Equal(handed, l) {
		t.Fatal("what was handed in is otherwise now")
	}
	if !want.Write {
		return
	}
	if want.Off {
		l = l[1:]
	}
	if want.Own {
		l = l[1:]
	}
	o.rows[key] = append([]api.Version{{Writer: w, Tomb: tomb}}, l[:want.Keep]...)
	o.wrote[w-1][key]++
}

func (o *world) commit(t *testing.T, w int) {
	want := api.OK
	switch {
	case o.is(w) == 0:
		want = api.ErrNone
	case o.is(w) != status.Active:
		want = api.ErrState
	case len(o.wrote[w-1]) > 0 && o.clock == o.c.TS:
		want, o.state[w-1] = api.Exhausted, status.Falling
	default:
		o.state[w-1], o.over[w-1] = status.Committed, o.now
		if len(o.wrote[w-1]) > 0 {
			o.clock++
			o.ts[w-1] = o.clock
		}
	}
	if got := o.x.Commit(w); got != want {
		t.Fatalf("Commit(%d): %v, not %v", w, got, want)
	}
}

func (o *world) abort(t *testing.T, w int) {
	want := api.OK
	switch {
	case o.is(w) == 0:
		want = api.ErrNone
	case o.is(w) != status.Active:
		want = api.ErrState
	case len(o.wrote[w-1]) > 0:
		o.state[w-1] = status.Falling
	default:
		o.state[w-1] = status.Aborted
	}
	if got := o.x.Abort(w); got != want {
		t.Fatalf("Abort(%d): %v, not %v", w, got, want)
	}
}

// fallen takes the intents off that are still there.
func (o *world) fallen(t *testing.T, w int) {
	want := api.OK
	switch o.is(w) {
	case 0:
		want = api.ErrNone
	case status.Falling:
		for key, l := range o.rows {
			if l[0].Writer == w {
				if l = l[1:]; len(l) == 0 {
					delete(o.rows, key)
				} else {
					o.rows[key] = l
				}
			}
		}
		o.state[w-1] = status.Aborted
	default:
		want = api.ErrState
	}
	if got := o.x.Fallen(w); got != want {
		t.Fatalf("Fallen(%d): %v, not %v", w, got, want)
	}
}

func (o *world) vacuum(t *testing.T) {
	floor, writers := o.clock, []int(nil)
	for k, s := range o.state {
		if s == status.Active {
			floor = min(floor, o.snap[k])
		}
	}
	for k, ts := range o.ts {
		if ts > 0 && ts <= floor {
			writers = append(writers, k+1)
		}
	}
	o.floor = floor
	if got, l := o.x.Vacuum(); got != floor || !slices.Equal(l, writers) {
		t.Fatalf("Vacuum: %d, %v, not %d, %v", got, l, floor, writers)
	}
}

// sweep leaves of a row what is kept, and the intents.
func (o *world) sweep(key string) {
	l := o.rows[key]
	intents, kept := o.kept(l)
	if l = l[:intents+len(kept)]; len(l) == 0 {
		delete(o.rows, key)
	} else {
		o.rows[key] = l
	}
}

func (o *world) check(t *testing.T) {
	t.Helper()
	x := o.x
	has, dead := o.counted()
	if x.Keys() != has || x.Dead() != dead || has > o.c.Keys {
		t.Fatalf("Keys %d, Dead %d, not %d, %d", x.Keys(), x.Dead(), has, dead)
	}
	active := 0
	for w := range len(o.state) + 2 {
		if o.is(w) == status.Active {
			active++
		}
		o.checkWriter(t, w)
	}
	if x.Home() != o.home || x.Floor() != o.floor || x.Clock() != o.clock || x.Active() != active {
		t.Fatal("Home, Floor, Clock, Active:", x.Home(), x.Floor(), x.Clock(), x.Active())
	}
	for key, l := range o.rows {
		intents, kept := o.kept(l)
		if a, b := x.Sort(l); a != intents || b != len(kept) {
			t.Fatalf("Sort of %s, %v: %d, %d, not %d, %d", key, l, a, b, intents, len(kept))
		}
		if n := len(kept); n > o.c.Depth || n == o.c.Depth && o.is(l[0].Writer) == status.Active {
			t.Fatalf("%s has more than Depth: %v", key, l)
		}
	}
}

func (o *world) checkWriter(t *testing.T, w int) {
	t.Helper()
	x := o.x
	if x.State(w) != o.is(w) {
		t.Fatalf("State(%d): %d, not %d", w, x.State(w), o.is(w))
	}
	ts, has := x.TS(w)
	snapshot, is := x.Snapshot(w)
	v, active := x.View(w)
	if o.is(w) == 0 {
		if ts != 0 || has || snapshot != 0 || is || active || v.Own != 0 || v.High != 0 || len(v.Busy) != 0 || len(x.Writes(w)) != 0 {
			t.Fatalf("of the writer %d, that there is not", w)
		}
		return
	}
	if ts != o.ts[w-1] || has != (ts > 0) {
		t.Fatalf("TS(%d): %d, %v", w, ts, has)
	}
	if is != (o.is(w) == status.Active) || is && snapshot != o.snap[w-1] || !is && snapshot != 0 || active != is {
		t.Fatalf("Snapshot(%d): %d, %v; View: %v", w, snapshot, is, active)
	}
	var writes []string
	if o.busy(w) {
		for key := range o.wrote[w-1] {
			writes = append(writes, key)
		}
		sort.Strings(writes)
	}
	if !slices.Equal(x.Writes(w), writes) {
		t.Fatalf("Writes(%d): %v, not %v", w, x.Writes(w), writes)
	}
	if !active && (v.Own != 0 || v.High != 0 || len(v.Busy) != 0) {
		t.Fatalf("View(%d) of one that is not active: %v", w, v)
	}
	for k := 1; active && k <= len(o.state)+1; k++ {
		want := k == w || slices.Contains(o.ended[w-1], k)
		if view.Sees(v, k) != want {
			t.Fatalf("the view %v of %d sees %d: %v", v, w, k, !want)
		}
		if had := o.is(k) == status.Committed && o.ts[k-1] > 0; had && want != (o.ts[k-1] <= o.snap[w-1]) {
			t.Fatalf("the view %v of %d, of the snapshot %d, and the writer %d of %d", v, w, o.snap[w-1], k, o.ts[k-1])
		}
	}
}

// firstWins tells whether no two that committed, and overlapped, wrote one key.
func (o *world) firstWins() bool {
	for i := range o.state {
		for k := range i {
			if o.is(i+1) != status.Committed || o.is(k+1) != status.Committed || o.began[i] > o.over[k] || o.began[k] > o.over[i] {
				continue
			}
			for key := range o.wrote[i] {
				if o.wrote[k][key] > 0 {
					return false
				}
			}
		}
	}
	return true
}

// P12.1 to P12.8: whatever is done, where lists are rows.
func TestRows(t *testing.T) {
	for seed := range 150 {
		r := rand.New(rand.NewSource(int64(seed)))
		c := config(1+r.Intn(4), 1+r.Intn(4), 2+r.Intn(3), 4+r.Intn(12))
		home := uint8(1 + r.Intn(2))
		o := &world{c: c, x: make1(t, c, home), home: home, rows: map[string][]api.Version{}}
		for range 150 {
			o.now++
			w := max(0, len(o.state)-r.Intn(c.Active+2)) + r.Intn(40)/39
			key := keys[r.Intn(len(keys))]
			switch k := r.Intn(24); {
			case k < 4:
				o.begin(t)
			case k < 10:
				o.judge(t, w, key, false)
			case k < 14:
				o.judge(t, w, key, true)
			case k < 17:
				o.commit(t, w)
			case k < 19:
				o.abort(t, w)
			case k < 21:
				o.fallen(t, w)
			case k < 22:
				o.vacuum(t)
			case k < 23:
				o.sweep(key)
			default:
				engine := uint8(r.Intn(4))
				want := api.OK
				if engine != 1 && engine != 2 {
					want = api.ErrArg
				} else {
					o.home = engine
				}
				if e := o.x.Move(engine); e != want {
					t.Fatalf("Move(%d): %v", engine, e)
				}
			}
			o.check(t)
		}
		if !o.firstWins() {
			t.Fatal("two that overlapped wrote one key")
		}
	}
}

// P12.7 to P12.9: whatever lists are told.
func TestWhateverLists(t *testing.T) {
	for seed := range 60 {
		r := rand.New(rand.NewSource(int64(seed)))
		c := config(3, 3, 3, 8)
		x := make1(t, c, api.Chains)
		for range 120 {
			before, floor, clock := told(x), x.Floor(), x.Clock()
			w := r.Intn(20) - 1
			var e api.Errno
			committed := false
			switch r.Intn(6) {
			case 0:
				_, e = x.Begin()
			case 1, 2:
				var l []api.Version
				for range r.Intn(5) {
					l = append(l, api.Version{Writer: r.Intn(20) - 1, TS: r.Intn(9) - 1, Tomb: r.Intn(2) == 0})
				}
				j := x.Judge(w, keys[r.Intn(5)], l, r.Intn(2) == 0)
				if e = j.Err; e != api.OK && j != (table.Judged{Err: e}) {
					t.Fatalf("with an error: %+v", j)
				}
			case 3:
				e = x.Commit(w)
				committed = e == api.OK
			case 4:
				e = x.Abort(w)
			case 5:
				if r.Intn(3) == 0 {
					x.Vacuum()
				} else {
					e = x.Fallen(w)
				}
			}
			if e != api.OK && e != api.Exhausted && told(x) != before {
				t.Fatalf("%v, but %s is %s", e, before, told(x))
			}
			if x.Floor() < floor || x.Floor() > x.Clock() || x.Clock() < clock || x.Clock() > clock+1 || x.Clock() > clock && !committed {
				t.Fatalf("floor %d, %d, clock %d, %d", floor, x.Floor(), clock, x.Clock())
			}
			for w := range 40 {
				if snapshot, is := x.Snapshot(w); is && snapshot < x.Floor() {
					t.Fatalf("the snapshot %d, the floor %d", snapshot, x.Floor())
				}
			}
		}
	}
}

// P12.1: what a table is made of.
func TestNew(t *testing.T) {
	for _, home := range []uint8{0, 3, 255} {
		if x, e := table.New(config(1, 1, 2, 1), home); x != nil || e != api.ErrArg {
			t.Errorf("the home %d: %v, %v", home, x, e)
		}
	}
	for _, c := range []api.Config{{}, config(0, 1, 2, 1), config(9, 1, 2, 1), config(1, 65, 2, 1), config(1, 1, 1, 1), config(1, 1, 2, 0)} {
		if x, e := table.New(c, api.Chains); x != nil || e != api.ErrArg {
			t.Errorf("%+v: %v, %v", c, x, e)
		}
	}
	for _, home := range []uint8{api.Chains, api.Undo} {
		x := make1(t, config(1, 1, 2, 1), home)
		if x.Home() != home || x.Floor() != 0 || x.Clock() != 0 || x.Active() != 0 || x.Keys() != 0 || x.Dead() != 0 {
			t.Error("a new one:", told(x))
		}
	}
}

// P12.2: with the clock at TS a Commit with writes is Exhausted, and aborts; one without is not.
func TestExhausted(t *testing.T) {
	x := make1(t, config(4, 4, 2, 1), api.Undo)
	for _, w := range []int{begin(t, x), begin(t, x), begin(t, x)} {
		x.Judge(w, keys[w], nil, false)
	}
	if e := x.Commit(1); e != api.OK || x.Clock() != 1 {
		t.Error(e, x.Clock())
	}
	if e := x.Commit(2); e != api.Exhausted || x.Clock() != 1 || x.State(2) != status.Falling || x.Keys() != 2 || x.Active() != 1 {
		t.Error(e, told(x))
	}
	if l := x.Writes(2); len(l) != 1 || l[0] != keys[2] {
		t.Error(l)
	}
	w := begin(t, x)
	if e := x.Commit(w); e != api.OK || x.State(w) != status.Committed {
		t.Error(e)
	}
	if ts, is := x.TS(w); ts != 0 || is {
		t.Error("one that committed nothing:", ts, is)
	}
	if e := x.Fallen(2); e != api.OK || x.State(2) != status.Aborted || len(x.Writes(2)) != 0 {
		t.Error(e, told(x))
	}
}

// P12.2: what Abort counts again, of a key that had a tomb above the floor, or up to it.
func TestAbortOfTombs(t *testing.T) {
	for _, swept := range []bool{false, true} {
		x := make1(t, config(4, 4, 3, 9), api.Chains)
		w := begin(t, x)
		x.Judge(w, "a", nil, false)
		x.Judge(w, "a", list(w), true)
		x.Commit(w)
		if x.Keys() != 1 || x.Dead() != 1 {
			t.Fatal(told(x))
		}
		v := begin(t, x)
		if j := x.Judge(v, "a", list(-w), false); !j.Write || j.Keep != 1 || j.Own || x.Dead() != 0 || x.Keys() != 1 {
			t.Fatal(j, told(x))
		}
		if swept {
			if floor, l := x.Vacuum(); floor != 1 || !slices.Equal(l, []int{w}) || x.Keys() != 1 {
				t.Fatal(floor, l, told(x))
			}
		}
		x.Abort(v)
		want := 1
		if swept {
			want = 0
		}
		if x.Keys() != want || x.Dead() != want {
			t.Errorf("swept %v: %s", swept, told(x))
		}
	}
}

// P12.1: the intents that are left out, and those that are not.
func TestJudgeOfFalling(t *testing.T) {
	x := make1(t, config(4, 4, 3, 9), api.Undo)
	a, b, c := begin(t, x), begin(t, x), begin(t, x)
	x.Judge(a, "k", nil, false)
	x.Abort(a)
	if j := x.Judge(b, "k", list(a), true); j != (table.Judged{}) {
		t.Errorf("of what is not found: %+v", j)
	}
	if j := x.Judge(b, "k", list(a), false); j != (table.Judged{Write: true, Off: true, Home: api.Undo}) {
		t.Errorf("of a falling one's: %+v", j)
	}
	if j := x.Judge(c, "k", list(a, b), false); j != (table.Judged{Err: api.Conflict}) {
		t.Errorf("behind a falling one's: %+v", j)
	}
	x.Judge(c, "m", nil, false)
	x.Abort(c)
	d := begin(t, x)
	if j := x.Judge(d, "n", list(a, c), false); j != (table.Judged{Err: api.Conflict}) {
		t.Errorf("of two falling ones' just the first is left out: %+v", j)
	}
	if intents, keep := x.Sort(list(a, c, b, d)); intents != 4 || keep != 0 {
		t.Error(intents, keep)
	}
}

// P12.4, P12.9: what is told, and copies.
func TestApart(t *testing.T) {
	for turn := range 2 {
		x := make1(t, config(4, 4, 3, 9), api.Chains)
		a, b := begin(t, x), begin(t, x)
		x.Judge(a, "k", nil, false)
		x.Judge(a, "b", nil, false)
		x.Judge(b, "c", nil, false)
		x.Judge(b, "c", list(b), true)
		x.Commit(b)
		before := told(x)
		x.Writes(a)[0] = "changed"
		v, _ := x.View(b)
		v.Own = 77
		c := begin(t, x)
		if v, _ := x.View(c); len(v.Busy) == 1 {
			v.Busy[0] = 99
		} else {
			t.Fatal(v)
		}
		if v, _ := x.View(c); v.Busy[0] != a {
			t.Error("what was told is kept:", v)
		}
		x.Abort(c)
		if before == told(x) {
			t.Fatal("a writer more is not told")
		}
		y, before := x.Copy(), told(x)
		if told(y) != before {
			t.Fatal("the copy tells something else")
		}
		if turn == 1 {
			x, y = y, x
		}
		d := begin(t, x)
		x.Judge(d, "c", list(-b), false)
		x.Judge(a, "k", list(a), true)
		x.Judge(a, "z", nil, false)
		x.Move(api.Undo)
		x.Commit(a)
		x.Commit(d)
		x.Vacuum()
		if told(y) != before {
			t.Errorf("%s, not %s", told(y), before)
		}
		if l := y.Writes(a); !slices.Equal(l, []string{"b", "k"}) {
			t.Error(l)
		}
		if e := y.Commit(a); e != api.OK || y.Dead() != 1 || y.Keys() != 3 {
			t.Error(e, told(y))
		}
	}
}

// R1: of nil.
func TestNil(t *testing.T) {
	var x *table.Table
	if w, e := x.Begin(); w != 0 || e != api.ErrNil {
		t.Error(w, e)
	}
	if j := x.Judge(1, "a", list(1), false); j != (table.Judged{Err: api.ErrNil}) {
		t.Error(j)
	}
	if x.Commit(1) != api.ErrNil || x.Abort(1) != api.ErrNil || x.Fallen(1) != api.ErrNil || x.Move(7) != api.ErrNil {
		t.Error("Commit, Abort, Fallen, Move")
	}
	if floor, l := x.Vacuum(); floor != 0 || len(l) != 0 {
		t.Error(floor, l)
	}
	if a, b := x.Sort(list(1, 2)); a != 0 || b != 0 {
		t.Error(a, b)
	}
	if x.Copy() != nil || x.State(1) != 0 || x.Home() != 0 || x.Floor() != 0 || x.Clock() != 0 || x.Active() != 0 || x.Keys() != 0 || x.Dead() != 0 || len(x.Writes(1)) != 0 {
		t.Error("of nil")
	}
	if ts, is := x.TS(1); ts != 0 || is {
		t.Error("TS")
	}
	if snapshot, is := x.Snapshot(1); snapshot != 0 || is {
		t.Error("Snapshot")
	}
	if v, is := x.View(1); v.Own != 0 || v.High != 0 || is {
		t.Error("View")
	}
}

// P12.1, P12.2: writers out of any range.
func TestNoWriter(t *testing.T) {
	x := make1(t, config(2, 2, 2, 2), api.Chains)
	begin(t, x)
	for _, w := range []int{math.MinInt, -1, 0, 2, math.MaxInt} {
		if a, b, c, d := x.Judge(w, "a", nil, true).Err, x.Commit(w), x.Abort(w), x.Fallen(w); a != api.ErrNone || b != api.ErrNone || c != api.ErrNone || d != api.ErrNone {
			t.Error(w, a, b, c, d)
		}
	}
	if intents, keep := x.Sort([]api.Version{{Writer: math.MinInt}, {Writer: math.MaxInt}}); intents != 0 || keep != 0 {
		t.Error(intents, keep)
	}
}

func TestExamples(t *testing.T) {
	x := make1(t, config(2, 1, 2, 9), api.Chains)
	if a, b := begin(t, x), begin(t, x); a != 1 || b != 2 {
		t.Error(a, b)
	}
	if j := x.Judge(1, "a", nil, false); j != (table.Judged{Write: true, Home: api.Chains}) || x.Keys() != 1 {
		t.Error(j, x.Keys())
	}
	if j := x.Judge(2, "b", nil, false); j.Err != api.Full {
		t.Error(j)
	}
	if j := x.Judge(2, "a", list(1), false); j.Err != api.Conflict {
		t.Error(j)
	}
	x.Commit(1)
	if j := x.Judge(2, "a", list(1), false); j.Err != api.Conflict {
		t.Error(j)
	}
	x.Abort(2)
	if w := begin(t, x); w != 3 {
		t.Error(w)
	}
	if j := x.Judge(3, "a", list(1), true); j != (table.Judged{Found: true, Write: true, Keep: 1, Home: api.Chains}) {
		t.Error(j)
	}
	x.Commit(3)
	if x.Clock() != 2 || x.Dead() != 1 {
		t.Error(x.Clock(), x.Dead())
	}
	if floor, l := x.Vacuum(); floor != 2 || !slices.Equal(l, []int{1, 3}) || x.Keys() != 0 {
		t.Error(floor, l, x.Keys())
	}
}
