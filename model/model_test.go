package model_test

import (
	"fmt"
	"math"
	"math/rand"
	"slices"
	"strings"
	"testing"

	"ferryman/api"
	"ferryman/model"
)

func config() api.Config {
	return api.Config{Tasks: 3, Active: 3, Keys: 3, Depth: 3, TS: 9, KeyLen: 2, ValLen: 2, Fan: 3}
}

func make1(t *testing.T, c api.Config) *model.Model {
	t.Helper()
	m, e := model.New(c)
	if e != api.OK || m == nil {
		t.Fatal("New:", e)
	}
	return m
}

func same(a, b api.Answer) bool {
	return a.Err == b.Err && a.Found == b.Found && a.Value == b.Value && slices.Equal(a.Pairs, b.Pairs)
}

// written is one line of a log: what a transaction wrote of a key; its timestamp, or 0.
type written struct {
	key, value string
	tomb       bool
	w, ts      int
}

// tx is a transaction by the words.
type tx struct{ task, state, snap, began, over int }

// world is S2 by a log, the oldest line first.
type world struct {
	c                 api.Config
	log               []written
	txs               []tx
	clock, floor, now int
}

func (o *world) tx(task, n int) int {
	for k, x := range o.txs {
		if x.task == task {
			if n--; n == 0 {
				return k + 1
			}
		}
	}
	return 0
}

// of tells the lines of a key, the newest first: an intent, and versions.
func (o *world) of(key string) (intent *written, versions []written) {
	for k := len(o.log) - 1; k >= 0; k-- {
		if x := o.log[k]; x.key == key && x.ts == 0 {
			intent = &o.log[k]
		} else if x.key == key {
			versions = append(versions, x)
		}
	}
	slices.SortFunc(versions, func(a, b written) int { return b.ts - a.ts })
	return intent, versions
}

func (o *world) keys() []string {
	var l []string
	for _, x := range o.log {
		if !slices.Contains(l, x.key) {
			l = append(l, x.key)
		}
	}
	slices.Sort(l)
	return l
}

func (o *world) read(w int, key string) (string, bool) {
	intent, versions := o.of(key)
	if intent != nil && intent.w == w {
		return intent.value, !intent.tomb
	}
	for _, x := range versions {
		if x.ts <= o.txs[w-1].snap {
			return x.value, !x.tomb
		}
	}
	return "", false
}

func (o *world) write(w int, key, value string, tomb bool) api.Answer {
	intent, versions := o.of(key)
	if intent != nil && intent.w != w || len(versions) > 0 && versions[0].ts > o.txs[w-1].snap {
		return api.Answer{Err: api.Conflict}
	}
	if _, found := o.read(w, key); tomb && !found {
		return api.Answer{}
	}
	switch {
	case intent != nil:
		intent.value, intent.tomb = value, tomb
		return api.Answer{Found: tomb}
	case len(versions) == 0 && len(o.keys()) == o.c.Keys, len(versions) == o.c.Depth:
		return api.Answer{Err: api.Full}
	}
	o.log = append(o.log, written{key, value, tomb, w, 0})
	return api.Answer{Found: tomb}
}

func (o *world) refused(task int, x api.Call) api.Errno {
	if task < 0 || task >= o.c.Tasks || x.Kind < 1 || x.Kind > 9 || x.Kind == api.Migrate && x.Engine != 1 && x.Engine != 2 {
		return api.ErrArg
	}
	switch x.Kind {
	case api.Begin, api.Vacuum, api.Migrate:
		return api.OK
	}
	w := o.tx(task, x.Tx)
	if w == 0 {
		return api.NoTxn
	}
	if o.txs[w-1].state != 1 {
		return api.Done
	}
	key, end, value := len(x.Key), len(x.End), len(x.Value)
	switch x.Kind {
	case api.Get, api.Put, api.Delete:
		if key < 1 || key > o.c.KeyLen || x.Kind == api.Put && value > o.c.ValLen {
			return api.TooLarge
		}
	case api.Scan:
		if key > o.c.KeyLen || end > o.c.KeyLen || x.Limit < 0 || x.Limit > api.MaxLimit {
			return api.TooLarge
		}
	}
	return api.OK
}

func (o *world) active() int {
	n := 0
	for _, x := range o.txs {
		if x.state == 1 {
			n++
		}
	}
	return n
}

func (o *world) end(w int, commit bool) api.Answer {
	has := slices.ContainsFunc(o.log, func(x written) bool { return x.w == w && x.ts == 0 })
	o.txs[w-1].over = o.now
	full := commit && has && o.clock == o.c.TS
	if commit && !full {
		o.txs[w-1].state = 3
		if has {
			o.clock++
		}
		for k, x := range o.log {
			if x.w == w && x.ts == 0 {
				o.log[k].ts = o.clock
			}
		}
		return api.Answer{}
	}
	o.txs[w-1].state = 4
	o.log = slices.DeleteFunc(o.log, func(x written) bool { return x.w == w && x.ts == 0 })
	if full {
		return api.Answer{Err: api.Exhausted}
	}
	return api.Answer{}
}

func (o *world) vacuum() {
	o.floor = o.clock
	for _, x := range o.txs {
		if x.state == 1 {
			o.floor = min(o.floor, x.snap)
		}
	}
	for _, key := range o.keys() {
		_, versions := o.of(key)
		low := slices.IndexFunc(versions, func(x written) bool { return x.ts <= o.floor })
		if low < 0 {
			continue
		}
		stays := versions[low].ts
		if versions[low].tomb {
			stays++
		}
		o.log = slices.DeleteFunc(o.log, func(x written) bool { return x.key == key && x.ts > 0 && x.ts < stays })
	}
}

func (o *world) do(task int, x api.Call) api.Answer {
	o.now++
	if e := o.refused(task, x); e != api.OK {
		return api.Answer{Err: e}
	}
	w := o.tx(task, x.Tx)
	switch x.Kind {
	case api.Begin:
		if o.active() == o.c.Active {
			return api.Answer{Err: api.Full}
		}
		o.txs = append(o.txs, tx{task: task, state: 1, snap: o.clock, began: o.now})
	case api.Get:
		if value, found := o.read(w, x.Key); found {
			return api.Answer{Found: true, Value: value}
		}
	case api.Put:
		return o.write(w, x.Key, x.Value, false)
	case api.Delete:
		return o.write(w, x.Key, "", true)
	case api.Scan:
		var a api.Answer
		for _, key := range o.keys() {
			value, found := o.read(w, key)
			if found && key >= x.Key && (x.End == "" || key < x.End) && len(a.Pairs) < x.Limit {
				a.Pairs = append(a.Pairs, api.Pair{Key: key, Value: value})
			}
		}
		return a
	case api.Commit:
		return o.end(w, true)
	case api.Abort:
		return o.end(w, false)
	case api.Vacuum:
		o.vacuum()
	}
	return api.Answer{}
}

// told is all that a model tells, as a text.
func told(m *model.Model) string {
	s := fmt.Sprint(m.Clock(), m.Floor(), m.Active(), m.Retained(), m.Keys())
	for _, key := range append(m.Keys(), "", "a", "zz") {
		v, is := m.Intent(key)
		s += fmt.Sprint("|", key, m.Versions(key), v, is)
	}
	for task := -1; task < 7; task++ {
		for n := 0; ; n++ {
			w, state, snapshot := m.Tx(task, n)
			s += fmt.Sprint(" ", w, state, snapshot)
			if n > 0 && w == 0 {
				break
			}
		}
	}
	return s
}

// tells is what the words say that a model tells.
func (o *world) tells() string {
	s := fmt.Sprint(o.clock, o.floor, o.active(), len(o.log), o.keys())
	for _, key := range append(o.keys(), "", "a", "zz") {
		intent, versions := o.of(key)
		var l []api.Version
		for _, x := range versions {
			l = append(l, api.Version{Writer: x.w, TS: x.ts, Tomb: x.tomb, Value: x.value})
		}
		var v api.Version
		if intent != nil {
			v = api.Version{Writer: intent.w, Tomb: intent.tomb, Value: intent.value}
		}
		s += fmt.Sprint("|", key, l, v, intent != nil)
	}
	for task := -1; task < 7; task++ {
		s += fmt.Sprint(" ", 0, 0, 0)
		for k, x := range o.txs {
			if x.task == task {
				s += fmt.Sprint(" ", k+1, x.state, x.snap)
			}
		}
		s += fmt.Sprint(" ", 0, 0, 0)
	}
	return s
}

var texts = []string{"a", "b", "ab", "\x00", "\xff\xff", "c"}

// some is some call; now and then one that is refused.
func some(r *rand.Rand, o *world, task int) api.Call {
	n := 0
	for _, x := range o.txs {
		if x.task == task {
			n++
		}
	}
	x := api.Call{Kind: []uint8{1, 1, 2, 2, 3, 3, 3, 3, 4, 4, 5, 6, 6, 7, 8, 9}[r.Intn(16)], Tx: max(n-r.Intn(3)/2, 1)}
	x.Key, x.End, x.Value = texts[r.Intn(len(texts))], texts[r.Intn(len(texts))], texts[r.Intn(len(texts))]
	x.Limit, x.Engine = r.Intn(5), uint8(1+r.Intn(2))
	switch r.Intn(30) {
	case 0:
		x.Kind = []uint8{0, 10, 255}[r.Intn(3)]
	case 1:
		x.Tx = []int{math.MinInt, -1, 0, n + 1, math.MaxInt}[r.Intn(5)]
	case 2:
		x.Key = ""
	case 3:
		x.Key = "abc"
	case 4:
		x.End, x.Value = "abc", "abc"
	case 5:
		x.Limit = []int{-1, api.MaxLimit, api.MaxLimit + 1, math.MinInt, math.MaxInt}[r.Intn(5)]
	case 6:
		x.Engine = []uint8{0, 3, 255}[r.Intn(3)]
	case 7, 8, 9:
		x.Key, x.End, x.Limit = "", "", api.MaxLimit
	case 10:
		x.Value = ""
	}
	return x
}

func configs(r *rand.Rand) api.Config {
	return api.Config{Tasks: 1 + r.Intn(4), Active: 1 + r.Intn(4), Keys: 1 + r.Intn(4), Depth: 2 + r.Intn(3), TS: 1 + r.Intn(20), KeyLen: 2, ValLen: 2, Fan: 3}
}

// P16.1, P16.2, P16.6: whatever is done.
func TestWhatever(t *testing.T) {
	answered := map[api.Errno]int{}
	for seed := range 120 {
		r := rand.New(rand.NewSource(int64(seed)))
		c := configs(r)
		m, o := make1(t, c), &world{c: c}
		for range 100 {
			task := r.Intn(c.Tasks)
			if r.Intn(40) == 0 {
				task = []int{math.MinInt, -1, c.Tasks, math.MaxInt}[r.Intn(4)]
			}
			x, before := some(r, o, task), told(m)
			refused := o.refused(task, x)
			if got := m.Refused(task, x); got != refused {
				t.Fatalf("Refused(%d, %+v): %v, not %v", task, x, got, refused)
			}
			want := o.do(task, x)
			got := m.Do(task, x)
			if !same(got, want) {
				t.Fatalf("Do(%d, %+v): %+v, not %+v, of %s", task, x, got, want, before)
			}
			if now := told(m); now != o.tells() {
				t.Fatalf("behind %d, %+v:\n%s, not\n%s", task, x, now, o.tells())
			} else if got.Err != api.OK && got.Err != api.Exhausted && now != before {
				t.Fatalf("%v changed something", got.Err)
			}
			answered[got.Err]++
			if len(m.Keys()) > c.Keys || m.Active() > c.Active || m.Clock() > c.TS {
				t.Fatal("too many:", told(m))
			}
			for _, key := range m.Keys() {
				n := len(m.Versions(key))
				if _, is := m.Intent(key); is {
					n++
				}
				if n > c.Depth+1 || n == c.Depth+1 && len(m.Versions(key)) == c.Depth {
					t.Fatal("too many versions of", key, told(m))
				}
			}
		}
	}
	for _, e := range []api.Errno{api.OK, api.ErrArg, api.NoTxn, api.Done, api.TooLarge, api.Conflict, api.Full, api.Exhausted} {
		if answered[e] < 5 {
			t.Errorf("%v was answered %d times", e, answered[e])
		}
	}
}

// line is a call of a task, and what it was answered.
type line struct {
	task int
	x    api.Call
	a    api.Answer
}

// run has a model do some calls.
func run(r *rand.Rand, t *testing.T, c api.Config, n int) []line {
	m, o := make1(t, c), &world{c: c}
	var l []line
	for range n {
		task := r.Intn(c.Tasks)
		x := some(r, o, task)
		o.do(task, x)
		l = append(l, line{task, x, m.Do(task, x)})
	}
	return l
}

// P16.4: Vacuums that are put in are not seen.
func TestVacuums(t *testing.T) {
	tried := 0
	for seed := range 200 {
		r := rand.New(rand.NewSource(int64(seed)))
		c := configs(r)
		c.Keys, c.Depth = 6, 8
		l := slices.DeleteFunc(run(r, t, c, 60), func(x line) bool { return x.x.Kind == api.Vacuum })
		m := make1(t, c)
		full := false
		for k := range l {
			l[k].a = m.Do(l[k].task, l[k].x)
			full = full || l[k].a.Err == api.Full && l[k].x.Kind != api.Begin
		}
		if full {
			continue
		}
		tried++
		m = make1(t, c)
		for _, x := range l {
			for range r.Intn(3) {
				m.Do(r.Intn(c.Tasks), api.Call{Kind: api.Vacuum})
			}
			if a := m.Do(x.task, x.x); !same(a, x.a) {
				t.Fatalf("%+v: with Vacuums %+v", x, a)
			}
		}
	}
	if tried < 100 {
		t.Error("too few:", tried)
	}
}

// P16.3, P16.5: what is read is one snapshot; of two that overlapped just one wrote a key.
func TestOneSnapshot(t *testing.T) {
	for seed := range 150 {
		r := rand.New(rand.NewSource(int64(seed)))
		c := configs(r)
		m, o := make1(t, c), &world{c: c}
		state := []map[string]string{{}} // by timestamps
		wrote := map[int]map[string]written{}
		for range 100 {
			task := r.Intn(c.Tasks)
			x := some(r, o, task)
			o.do(task, x)
			w, _, snapshot := m.Tx(task, x.Tx)
			a := m.Do(task, x)
			switch {
			case a.Err != api.OK:
			case x.Kind == api.Put, x.Kind == api.Delete && a.Found:
				if wrote[w] == nil {
					wrote[w] = map[string]written{}
				}
				wrote[w][x.Key] = written{value: x.Value, tomb: x.Kind == api.Delete}
			case x.Kind == api.Commit && len(wrote[w]) > 0:
				next := map[string]string{}
				for key, v := range state[len(state)-1] {
					next[key] = v
				}
				apply(next, wrote[w])
				state = append(state, next)
			case x.Kind == api.Get, x.Kind == api.Scan:
				seen := map[string]string{}
				for key, v := range state[snapshot] {
					seen[key] = v
				}
				apply(seen, wrote[w])
				reads(t, m, task, x, a, seen)
			}
		}
		for i, a := range o.txs {
			for k, b := range o.txs[:i] {
				if a.state == 3 && b.state == 3 && a.began < b.over && b.began < a.over {
					for key := range wrote[i+1] {
						if _, both := wrote[k+1][key]; both {
							t.Fatalf("%d and %d wrote %q", i+1, k+1, key)
						}
					}
				}
			}
		}
	}
}

func apply(m map[string]string, wrote map[string]written) {
	for key, x := range wrote {
		if x.tomb {
			delete(m, key)
		} else {
			m[key] = x.value
		}
	}
}

// reads tells whether a Get, or a Scan, was answered what is seen; and that a Scan tells what Gets would.
func reads(t *testing.T, m *model.Model, task int, x api.Call, a api.Answer, seen map[string]string) {
	t.Helper()
	if x.Kind == api.Get {
		value, is := seen[x.Key]
		if a.Found != is || a.Value != value {
			t.Fatalf("%+v: %+v, of %v", x, a, seen)
		}
		return
	}
	var keys []string
	for key := range seen {
		if key >= x.Key && (x.End == "" || key < x.End) {
			keys = append(keys, key)
		}
	}
	slices.Sort(keys)
	var want []api.Pair
	for _, key := range keys[:min(len(keys), x.Limit)] {
		want = append(want, api.Pair{Key: key, Value: seen[key]})
		if got := m.Do(task, api.Call{Kind: api.Get, Tx: x.Tx, Key: key}); !got.Found || got.Value != seen[key] {
			t.Fatalf("Get of %q: %+v", key, got)
		}
	}
	if !slices.Equal(a.Pairs, want) {
		t.Fatalf("%+v: %v, not %v", x, a.Pairs, want)
	}
}

// P16.7: with tasks that are named otherwise; and without Migrates.
func TestWhose(t *testing.T) {
	for seed := range 100 {
		r := rand.New(rand.NewSource(int64(seed)))
		c := configs(r)
		l := run(r, t, c, 80)
		other, without := make1(t, c), make1(t, c)
		names := r.Perm(c.Tasks)
		for _, x := range l {
			if a := other.Do(names[x.task], x.x); !same(a, x.a) {
				t.Fatalf("%+v: of other tasks %+v", x, a)
			}
			if x.x.Kind == api.Migrate {
				before := told(other)
				if other.Do(0, x.x); told(other) != before {
					t.Fatal("a Migrate changed something")
				}
				continue
			}
			if a := without.Do(x.task, x.x); !same(a, x.a) {
				t.Fatalf("%+v: without Migrates %+v", x, a)
			}
		}
	}
}

// P16.8, R1: what is told, and copies.
func TestApart(t *testing.T) {
	for seed := range 60 {
		r := rand.New(rand.NewSource(int64(seed)))
		c := configs(r)
		m, o := make1(t, c), &world{c: c}
		for range 60 {
			task := r.Intn(c.Tasks)
			x := some(r, o, task)
			o.do(task, x)
			m.Do(task, x)
		}
		k, before := m.Copy(), told(m)
		if told(k) != before {
			t.Fatal("a copy tells something else")
		}
		other := &world{c: c, log: slices.Clone(o.log), txs: slices.Clone(o.txs), clock: o.clock, floor: o.floor}
		for range 60 {
			task := r.Intn(c.Tasks)
			x := some(r, other, task)
			if a, want := k.Do(task, x), other.do(task, x); !same(a, want) {
				t.Fatalf("the copy: %+v: %+v, not %+v", x, a, want)
			}
		}
		if told(m) != before {
			t.Fatal("what is done to a copy is seen")
		}
		before = told(k)
		for range 60 {
			task := r.Intn(c.Tasks)
			x := some(r, o, task)
			if a, want := m.Do(task, x), o.do(task, x); !same(a, want) {
				t.Fatalf("%+v: %+v, not %+v", x, a, want)
			}
		}
		if told(k) != before {
			t.Fatal("the copy sees what is done")
		}
		for _, key := range m.Keys() {
			for i := range m.Versions(key) {
				m.Versions(key)[i].Value = "changed"
			}
		}
		if l := m.Keys(); len(l) > 0 {
			l[0] = "changed"
		}
		if told(m) != o.tells() {
			t.Fatal("what was told is kept")
		}
	}
}

// P16.8: of however many versions of a key, both go their own way.
func TestCopiesOfVersions(t *testing.T) {
	c := config()
	c.Depth, c.TS = api.MaxDepth, 100
	for n := range c.Depth - 1 {
		m := make1(t, c)
		tx := 0
		write := func(m *model.Model, tx int, value string) {
			m.Do(0, api.Call{Kind: api.Begin})
			m.Do(0, api.Call{Kind: api.Put, Tx: tx, Key: "a", Value: value})
			m.Do(0, api.Call{Kind: api.Commit, Tx: tx})
		}
		for range n {
			tx++
			write(m, tx, "v")
		}
		k := m.Copy()
		write(m, tx+1, "m")
		before := told(m)
		write(k, tx+1, "k")
		write(k, tx+2, "kk")
		if told(m) != before || m.Versions("a")[0].Value != "m" || k.Versions("a")[1].Value != "k" {
			t.Fatalf("%d versions: %v, %v", n, m.Versions("a"), k.Versions("a"))
		}
	}
}

// P16.1: a config that may not be; and of nil.
func TestNewAndNil(t *testing.T) {
	for _, c := range []api.Config{{}, {Tasks: 7, Active: 1, Keys: 1, Depth: 2, TS: 1, KeyLen: 1, Fan: 3}, {Tasks: 1, Active: 1, Keys: 1, Depth: 1, TS: 1, KeyLen: 1, Fan: 3}} {
		if m, e := model.New(c); m != nil || e != api.ErrArg {
			t.Error(c, m, e)
		}
	}
	if m := make1(t, config()); told(m) != (&world{c: config()}).tells() {
		t.Error("a new one:", told(m))
	}
	var m *model.Model
	if a := m.Do(0, api.Call{}); !same(a, api.Answer{Err: api.ErrNil}) {
		t.Error(a)
	}
	if e := m.Refused(9, api.Call{}); e != api.ErrNil {
		t.Error(e)
	}
	if w, state, snapshot := m.Tx(0, 1); w != 0 || state != 0 || snapshot != 0 || len(m.Versions("a")) != 0 || len(m.Keys()) != 0 {
		t.Error("Tx, Versions, Keys")
	}
	if v, is := m.Intent("a"); v != (api.Version{}) || is || m.Retained() != 0 || m.Active() != 0 || m.Clock() != 0 || m.Floor() != 0 || m.Copy() != nil {
		t.Error("of nil")
	}
}

// P16.1: the row in which a call is refused; each bound itself.
func TestRefused(t *testing.T) {
	c := config()
	m := make1(t, c)
	m.Do(0, api.Call{Kind: api.Begin})
	m.Do(1, api.Call{Kind: api.Begin})
	m.Do(1, api.Call{Kind: api.Commit, Tx: 1})
	long := strings.Repeat("x", 3)
	for _, x := range []struct {
		task int
		call api.Call
		want api.Errno
	}{
		{3, api.Call{Kind: api.Get, Tx: 9, Key: long}, api.ErrArg},
		{0, api.Call{Kind: 0, Tx: 9, Key: long}, api.ErrArg},
		{0, api.Call{Kind: api.Migrate, Engine: 3, Tx: 9}, api.ErrArg},
		{2, api.Call{Kind: api.Get, Tx: 1, Key: long}, api.NoTxn},
		{1, api.Call{Kind: api.Get, Tx: 1, Key: long}, api.Done},
		{1, api.Call{Kind: api.Get, Tx: 2, Key: long}, api.NoTxn},
		{0, api.Call{Kind: api.Get, Tx: 1, Key: long}, api.TooLarge},
		{0, api.Call{Kind: api.Get, Tx: 1, Key: ""}, api.TooLarge},
		{0, api.Call{Kind: api.Delete, Tx: 1, Key: ""}, api.TooLarge},
		{0, api.Call{Kind: api.Delete, Tx: 1, Key: long}, api.TooLarge},
		{0, api.Call{Kind: api.Put, Tx: 1, Key: "", Value: ""}, api.TooLarge},
		{0, api.Call{Kind: api.Put, Tx: 1, Key: long}, api.TooLarge},
		{0, api.Call{Kind: api.Put, Tx: 1, Key: "ab", Value: long}, api.TooLarge},
		{0, api.Call{Kind: api.Put, Tx: 1, Key: "ab", Value: "ab", End: long, Limit: -1, Engine: 9}, api.OK},
		{0, api.Call{Kind: api.Get, Tx: 1, Key: "ab", Value: long, End: long, Limit: -1, Engine: 9}, api.OK},
		{0, api.Call{Kind: api.Delete, Tx: 1, Key: "ab", Value: long, End: long, Limit: -1, Engine: 9}, api.OK},
		{0, api.Call{Kind: api.Scan, Tx: 1, Key: long}, api.TooLarge},
		{0, api.Call{Kind: api.Scan, Tx: 1, End: long}, api.TooLarge},
		{0, api.Call{Kind: api.Scan, Tx: 1, Limit: -1}, api.TooLarge},
		{0, api.Call{Kind: api.Scan, Tx: 1, Limit: api.MaxLimit + 1}, api.TooLarge},
		{0, api.Call{Kind: api.Scan, Tx: 1, Key: "ab", End: "ab", Limit: api.MaxLimit, Value: long, Engine: 9}, api.OK},
		{0, api.Call{Kind: api.Commit, Tx: 1, Key: long, Value: long, End: long, Limit: -1, Engine: 9}, api.OK},
		{0, api.Call{Kind: api.Abort, Tx: 1, Key: long, Value: long, End: long, Limit: -1, Engine: 9}, api.OK},
		{0, api.Call{Kind: api.Begin, Tx: -4, Key: long, Value: long, End: long, Limit: -1, Engine: 9}, api.OK},
		{0, api.Call{Kind: api.Vacuum, Tx: -4, Key: long, Value: long, End: long, Limit: -1, Engine: 9}, api.OK},
		{0, api.Call{Kind: api.Migrate, Tx: -4, Key: long, Value: long, End: long, Limit: -1, Engine: 1}, api.OK},
	} {
		if got := m.Refused(x.task, x.call); got != x.want {
			t.Errorf("%d, %+v: %v, not %v", x.task, x.call, got, x.want)
		}
	}
}

// P16.2: the same answers.
func TestSame(t *testing.T) {
	full := func() api.Answer {
		return api.Answer{Err: api.Full, Found: true, Value: "v", Pairs: []api.Pair{{Key: "a", Value: "1"}, {Key: "b", Value: "2"}}}
	}
	if !model.Same(full(), full()) || !model.Same(api.Answer{}, api.Answer{Pairs: []api.Pair{}}) {
		t.Error("the same")
	}
	for k := range 7 {
		a := full()
		switch k {
		case 0:
			a.Err = api.OK
		case 1:
			a.Found = false
		case 2:
			a.Value = ""
		case 3:
			a.Pairs = a.Pairs[:1]
		case 4:
			a.Pairs[1].Key = "c"
		case 5:
			a.Pairs[0].Value = "c"
		case 6:
			a.Pairs = nil
		}
		if model.Same(a, full()) || model.Same(full(), a) {
			t.Error(a)
		}
	}
}

func TestExamples(t *testing.T) {
	c := config()
	c.Keys, c.Depth, c.TS = 2, 2, 2
	m := make1(t, c)
	begin, commit := api.Call{Kind: api.Begin}, api.Call{Kind: api.Commit, Tx: 1}
	get := func(n int) api.Call { return api.Call{Kind: api.Get, Tx: n, Key: "a"} }
	put := func(n int, key, v string) api.Call { return api.Call{Kind: api.Put, Tx: n, Key: key, Value: v} }
	for k, x := range []struct {
		task int
		call api.Call
		want api.Answer
	}{
		{0, begin, api.Answer{}},
		{0, put(1, "a", "1"), api.Answer{}},
		{1, begin, api.Answer{}},
		{1, get(1), api.Answer{}},
		{1, put(1, "a", "2"), api.Answer{Err: api.Conflict}},
		{0, commit, api.Answer{}},
		{1, get(1), api.Answer{}},
		{1, put(1, "a", "2"), api.Answer{Err: api.Conflict}},
		{1, api.Call{Kind: api.Abort, Tx: 1}, api.Answer{}},
		{1, begin, api.Answer{}},
		{1, get(2), api.Answer{Found: true, Value: "1"}},
		{1, api.Call{Kind: api.Delete, Tx: 2, Key: "a"}, api.Answer{Found: true}},
		{1, get(2), api.Answer{}},
		{1, api.Call{Kind: api.Commit, Tx: 2}, api.Answer{}},
	} {
		if a := m.Do(x.task, x.call); !same(a, x.want) {
			t.Errorf("%d: %+v", k, a)
		}
	}
	if l := m.Versions("a"); !slices.Equal(l, []api.Version{{Writer: 3, TS: 2, Tomb: true}, {Writer: 1, TS: 1, Value: "1"}}) {
		t.Error(l)
	}
	m.Do(0, begin)
	m.Do(0, put(2, "b", "x"))
	if a := m.Do(0, api.Call{Kind: api.Commit, Tx: 2}); a.Err != api.Exhausted {
		t.Error(a)
	}
	m.Do(2, api.Call{Kind: api.Vacuum})
	if len(m.Keys()) != 0 {
		t.Error(m.Keys())
	}
}
