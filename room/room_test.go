package room_test

import (
	"math/rand"
	"slices"
	"testing"

	"ferryman/api"
	"ferryman/compile"
	"ferryman/model"
	"ferryman/replay"
	"ferryman/room"
	"ferryman/turns"
)

func least() api.Config {
	return api.Config{Tasks: 1, Active: 1, Keys: 1, Depth: 2, TS: 1, KeyLen: 1, ValLen: 0, Fan: 3}
}

func most() api.Config {
	return api.Config{Tasks: api.MaxTasks, Active: api.MaxActive, Keys: api.MaxKeys, Depth: api.MaxDepth, TS: api.MaxTS, KeyLen: api.MaxKey, ValLen: api.MaxVal, Fan: api.MaxFan}
}

// parts are a config's numbers.
func parts(c *api.Config) []*int {
	return []*int{&c.Tasks, &c.Active, &c.Keys, &c.Depth, &c.TS, &c.KeyLen, &c.ValLen, &c.Fan}
}

// some is some config that may be.
func some(r *rand.Rand) api.Config {
	c, low, high := least(), least(), most()
	for i, p := range parts(&c) {
		*p = *parts(&low)[i] + r.Intn(*parts(&high)[i]-*parts(&low)[i]+1)
	}
	return c
}

// P30.1: bounds, steps, rounds.
func TestFormulas(t *testing.T) {
	r := rand.New(rand.NewSource(1))
	l := []api.Config{least(), most()}
	for range 2000 {
		l = append(l, some(r))
	}
	for _, c := range l {
		slots, anchors := c.Keys*c.Depth, c.Keys
		for range c.Tasks {
			anchors += c.Keys * c.Depth
			if slots += c.Keys * c.Depth; c.Keys == 1 { // a key's Depth is less than Depth + 1
				slots++
			}
		}
		if s, a := room.Bound(c); s != slots || a != anchors {
			t.Fatalf("Bound(%+v): %d, %d, not %d, %d", c, s, a, slots, anchors)
		}
		levels := 1
		for levels*c.Fan < anchors {
			levels++
		}
		key, m := 5*levels+24, 8*slots+16*c.Tasks+8
		greatest := 0
		for k := range 256 {
			want := 2
			switch k {
			case 1:
				want = 3
			case 2, 3, 4:
				want = key + m
			case 6, 7:
				want = 4 + c.Keys*key + m
			case 5, 8, 9:
				want = 6 + (anchors+c.Tasks+1)*key + m
			}
			greatest = max(greatest, want)
			if got := room.Steps(c, uint8(k)); got != want {
				t.Fatalf("Steps(%+v, %d): %d, not %d", c, k, got, want)
			}
		}
		if got := room.Rounds(c); got != c.Tasks*greatest {
			t.Fatalf("Rounds(%+v): %d, not %d", c, got, c.Tasks*greatest)
		}
	}
}

// P30.1: of a config that may not be.
func TestMayNot(t *testing.T) {
	l := []api.Config{{}}
	for i := range 8 {
		c, d := least(), most()
		*parts(&c)[i]--
		*parts(&d)[i]++
		l = append(l, c, d)
	}
	for _, c := range l {
		slots, anchors := room.Bound(c)
		if slots != 0 || anchors != 0 || room.Rounds(c) != 0 {
			t.Errorf("%+v: %d, %d, %d", c, slots, anchors, room.Rounds(c))
		}
		for k := range 256 {
			if n := room.Steps(c, uint8(k)); n != 0 {
				t.Errorf("%+v, %d: %d", c, k, n)
			}
		}
		if s, a, e := room.Now(c, nil, nil); s != 0 || a != 0 || e != api.ErrArg {
			t.Errorf("%+v: %d, %d, %v", c, s, a, e)
		}
	}
}

// P30.6: with a larger config.
func TestLarger(t *testing.T) {
	r := rand.New(rand.NewSource(2))
	for range 3000 {
		c := some(r)
		d, high := c, most()
		for i, p := range parts(&d)[:7] {
			*p += r.Intn(*parts(&high)[i] - *p + 1)
		}
		s, a := room.Bound(c)
		if x, y := room.Bound(d); x < s || y < a || room.Rounds(d) < room.Rounds(c) {
			t.Fatal(c, d)
		}
		for kind := range uint8(11) {
			if room.Steps(d, kind) < room.Steps(c, kind) {
				t.Fatal(c, d, kind)
			}
		}
	}
}

// run is a history by choices, as the model answers.
func run(c api.Config, programs [][]api.Call, choices []int) []api.Event {
	l, _ := compile.Free(c, programs, choices)
	return l
}

// sums tells by S8 what there may be behind a history.
func sums(c api.Config, programs [][]api.Call, l []api.Event) (slots, anchors int) {
	m, _ := model.New(c)
	type more struct{ slots, anchors int }
	asks := map[int]more{}
	for _, e := range l {
		x := programs[e.Task][e.Call]
		switch e.What {
		case api.Mark:
			before := m.Retained()
			m.Do(e.Task, x)
			took := before - m.Retained()
			switch {
			case x.Kind == api.Put || x.Kind == api.Delete:
				asks[e.Task] = more{2, 1}
			case x.Kind == api.Migrate:
				asks[e.Task] = more{c.Depth + 1, 0}
			case took > 0:
				asks[e.Task] = more{took, took}
			}
		case api.Return:
			delete(asks, e.Task)
		}
	}
	slots, anchors = m.Retained(), len(m.Keys())
	for _, x := range asks {
		slots, anchors = slots+x.slots, anchors+x.anchors
	}
	return slots, anchors
}

// P30.2 to P30.5: behind each beginning of a history.
func TestNow(t *testing.T) {
	took := 0
	for seed := range 400 {
		r := rand.New(rand.NewSource(int64(seed)))
		c := turns.Config(r.Intn)
		p := turns.Programs(r.Intn, c, 25)
		l := run(c, p, turns.Picks(r.Intn, c, r.Intn(200)))
		mostSlots, mostAnchors := room.Bound(c)
		wasSlots, wasAnchors := 0, 0
		for n := range len(l) + 1 {
			slots, anchors, e := room.Now(c, p, l[:n])
			if wantSlots, wantAnchors := sums(c, p, l[:n]); slots != wantSlots || anchors != wantAnchors || e != api.OK {
				t.Fatalf("%v: %d, %d, %v, not %d, %d", l[:n], slots, anchors, e, wantSlots, wantAnchors)
			}
			if slots > mostSlots || anchors > mostAnchors {
				t.Fatalf("%d, %d, above the bounds %d, %d", slots, anchors, mostSlots, mostAnchors)
			}
			if n > 0 {
				switch e := l[n-1]; {
				case e.What == api.Invoke && (slots != wasSlots || anchors != wasAnchors):
					t.Fatal("by an Invoke:", slots, anchors, wasSlots, wasAnchors)
				case e.What == api.Return && (slots > wasSlots || anchors > wasAnchors):
					t.Fatal("by a Return:", slots, anchors, wasSlots, wasAnchors)
				case e.What == api.Return && slots < wasSlots && p[e.Task][e.Call].Kind > api.Delete && p[e.Task][e.Call].Kind < api.Migrate:
					took++
				}
			}
			m, _ := replay.Model(c, p, l[:n])
			if !slices.ContainsFunc(replay.Answers(c, p, l[:n]), func(d replay.Done) bool { return d.Back < 0 }) && (slots != m.Retained() || anchors != len(m.Keys())) {
				t.Fatal("at rest:", slots, anchors, m.Retained(), m.Keys())
			}
			wasSlots, wasAnchors = slots, anchors
		}
	}
	if took < 20 {
		t.Error("too few that took something off:", took)
	}
}

// P30.2: errors.
func TestErrors(t *testing.T) {
	c := least()
	begin := [][]api.Call{{{Kind: api.Begin}}}
	for k, x := range []struct {
		p    [][]api.Call
		l    []api.Event
		want api.Errno
	}{
		{[][]api.Call{nil, nil}, []api.Event{{What: 9}}, api.ErrArg},
		{[][]api.Call{make([]api.Call, 65)}, nil, api.ErrArg},
		{begin, []api.Event{{What: api.Mark}}, api.ErrForm},
		{begin, []api.Event{{What: api.Invoke, Call: 1}}, api.ErrForm},
		{nil, []api.Event{{What: api.Invoke}}, api.ErrForm},
		{begin, []api.Event{{What: api.Invoke}, {What: api.Mark}, {What: api.Return, Answer: api.Answer{Err: api.Full}}}, api.OK},
	} {
		if slots, anchors, e := room.Now(c, x.p, x.l); slots != 0 || anchors != 0 || e != x.want {
			t.Errorf("%d: %d, %d, %v", k, slots, anchors, e)
		}
	}
}

func TestExamples(t *testing.T) {
	c := least()
	if s, a := room.Bound(c); s != 5 || a != 3 {
		t.Error(s, a)
	}
	for kind, want := range map[uint8]int{api.Begin: 3, api.Get: 93, api.Commit: 97, api.Scan: 215} {
		if got := room.Steps(c, kind); got != want {
			t.Error(kind, got, want)
		}
	}
	if n := room.Rounds(c); n != 215 {
		t.Error(n)
	}
	p := [][]api.Call{{{Kind: api.Begin}, {Kind: api.Put, Tx: 1, Key: "a"}}}
	l := run(c, p, make([]int, 6))
	if s, a, _ := room.Now(c, p, l[:5]); s != 3 || a != 2 {
		t.Error(s, a)
	}
	if s, a, _ := room.Now(c, p, l); s != 1 || a != 1 {
		t.Error(s, a)
	}
}
