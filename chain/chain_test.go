package chain_test

import (
	"math"
	"math/rand"
	"slices"
	"strings"
	"testing"

	"ferryman/api"
	"ferryman/chain"
)

func config(valLen int) api.Config {
	return api.Config{Tasks: 1, Active: 1, Keys: 1, Depth: 2, TS: 1, KeyLen: 4, ValLen: valLen, Fan: 3}
}

func make1(t *testing.T, valLen int) *chain.Chains {
	t.Helper()
	a, e := chain.New(config(valLen))
	if e != api.OK || a == nil {
		t.Fatal("New:", e)
	}
	return a
}

func add(t *testing.T, a *chain.Chains, v api.Version, next api.Handle) api.Handle {
	t.Helper()
	h, e := a.Make(v, next)
	if e != api.OK || h == 0 {
		t.Fatalf("Make(%+v): %d, %v", v, h, e)
	}
	return h
}

// some is some version that may be.
func some(r *rand.Rand, valLen int) api.Version {
	v := api.Version{Writer: 1 + r.Intn(9), TS: r.Intn(4)}
	if r.Intn(20) == 0 {
		v.Writer, v.TS = math.MaxInt, api.MaxTS
	}
	if r.Intn(3) == 0 {
		v.Tomb = true
	} else {
		v.Value = strings.Repeat(string([]byte{byte(r.Intn(256))}), r.Intn(valLen+1))
	}
	return v
}

// wrong are versions that may not be, of ValLen 3.
func wrong() []api.Version {
	return []api.Version{{}, {Writer: -1}, {Writer: math.MinInt}, {Writer: 1, TS: -1}, {Writer: 1, TS: api.MaxTS + 1}, {Writer: 1, TS: math.MaxInt}, {Writer: 1, TS: math.MinInt}, {Writer: 1, Value: "abcd"}, {Writer: 1, Tomb: true, Value: "a"}, {Writer: 0, Tomb: true}, {Value: "a"}}
}

// world is chains by the words.
type world struct {
	named map[api.Handle]chain.Node
	all   []api.Handle
}

func (o *world) list(top api.Handle) []api.Version {
	var l []api.Version
	for n, is := o.named[top]; is && len(l) < len(o.named); n, is = o.named[n.Next] {
		l = append(l, n.V)
	}
	return l
}

func (o *world) check(t *testing.T, a *chain.Chains) {
	t.Helper()
	if a.Used() != len(o.named) {
		t.Fatalf("Used: %d, not %d", a.Used(), len(o.named))
	}
	for _, h := range append([]api.Handle{0}, o.all...) {
		want, is := o.named[h]
		if n, has := a.Read(h); n != want || has != is {
			t.Fatalf("Read(%x): %+v, %v, not %+v", h, n, has, want)
		}
		if l := a.List(h); !slices.Equal(l, o.list(h)) {
			t.Fatalf("List(%x): %+v, not %+v", h, l, o.list(h))
		}
	}
}

// P17.1 to P17.6: whatever is made, changed, stamped, cut, given back.
func TestWhatever(t *testing.T) {
	for seed := range 30 {
		r := rand.New(rand.NewSource(int64(seed)))
		valLen := []int{0, 1, 3, 200, 256}[seed%5]
		a, o := make1(t, valLen), &world{named: map[api.Handle]chain.Node{}}
		for range 200 {
			h := api.Handle(0)
			if n := len(o.all); n > 0 && r.Intn(10) > 0 {
				h = o.all[max(0, n-1-r.Intn(12))]
			}
			n, is := o.named[h]
			want := api.OK
			if !is {
				want = api.ErrNone
			}
			var e api.Errno
			switch v := some(r, valLen); r.Intn(8) {
			case 0, 1, 2:
				k := add(t, a, v, h)
				o.all, o.named[k] = append(o.all, k), chain.Node{V: v, Next: h}
				want = api.OK
			case 3, 4:
				e = a.Change(h, v)
				n.V = v
			case 5:
				n.V.TS = 1 + r.Intn(api.MaxTS)
				e = a.Stamp(h, n.V.TS)
			case 6:
				n.Next = 0
				e = a.Cut(h)
			case 7:
				if e = a.Free(h); is {
					delete(o.named, h)
					is = false
				}
			}
			if e != want {
				t.Fatalf("of %x: %v, not %v", h, e, want)
			}
			if is && o.named[h] != (chain.Node{}) {
				o.named[h] = n
			}
			o.check(t, a)
		}
	}
}

// P17.2: a chain that goes round ends behind as many versions as slots are used.
func TestRound(t *testing.T) {
	a := make1(t, 3)
	var l []api.Handle
	for k := range 3 {
		next := api.Handle(0)
		if k > 0 {
			next = l[k-1]
		}
		l = append(l, add(t, a, api.Version{Writer: k + 1}, next))
	}
	a.Free(l[0])
	again := add(t, a, api.Version{Writer: 9}, l[2])
	for range 3 {
		add(t, a, api.Version{Writer: 7}, 0)
	}
	if got := a.List(l[2]); len(got) != 2 {
		t.Error("an old handle names nothing:", got)
	}
	if got := a.List(again); len(got) != 3 || got[0].Writer != 9 || got[1].Writer != 3 || got[2].Writer != 2 {
		t.Error(got)
	}
	first, _ := chain.New(config(3))
	h := add(t, first, api.Version{Writer: 1}, 1)
	if got := first.List(h); h != 1 || len(got) != 1 {
		t.Error("it names itself:", h, got)
	}
	round, _ := chain.New(config(3))
	p := add(t, round, api.Version{Writer: 1}, 0)
	round.Free(p)
	q := add(t, round, api.Version{Writer: 2}, p+1) // it names itself: the generation one on
	if q != p+1 {
		t.Fatal(p, q)
	}
	if got := round.List(q); len(got) != 1 {
		t.Error("it goes round:", got)
	}
	add(t, round, api.Version{Writer: 3}, q)
	if got := round.List(q); len(got) != 2 || got[1].Writer != 2 {
		t.Error("it goes round:", got)
	}
}

// P17.1: what may not be; errors in their row.
func TestErrors(t *testing.T) {
	for _, c := range []api.Config{{}, config(-1), config(257)} {
		if a, e := chain.New(c); a != nil || e != api.ErrArg {
			t.Error(c, a, e)
		}
	}
	a := make1(t, 3)
	h := add(t, a, api.Version{Writer: 1, Value: "abc"}, 0)
	for _, v := range wrong() {
		if k, e := a.Make(v, 0); k != 0 || e != api.ErrArg {
			t.Errorf("Make(%+v): %v", v, e)
		}
		if e := a.Change(h, v); e != api.ErrArg {
			t.Errorf("Change(%+v): %v", v, e)
		}
		if e := a.Change(0, v); e != api.ErrArg {
			t.Errorf("Change(0, %+v): %v", v, e)
		}
	}
	for _, ts := range []int{math.MinInt, -1, 0, api.MaxTS + 1, math.MaxInt} {
		if e, f := a.Stamp(h, ts), a.Stamp(0, ts); e != api.ErrArg || f != api.ErrArg {
			t.Errorf("Stamp(%d): %v, %v", ts, e, f)
		}
	}
	for _, ts := range []int{1, api.MaxTS} {
		if e := a.Stamp(h, ts); e != api.OK {
			t.Errorf("Stamp(%d): %v", ts, e)
		}
		if n, is := a.Read(h); !is || n.V.TS != ts {
			t.Errorf("Stamp(%d): %+v", ts, n)
		}
	}
	a.Change(h, api.Version{Writer: 1, Value: "abc"})
	for _, x := range []api.Handle{0, h + 1, h - 1, math.MaxUint64} {
		if a.Change(x, api.Version{Writer: 1}) != api.ErrNone || a.Stamp(x, 1) != api.ErrNone || a.Cut(x) != api.ErrNone || a.Free(x) != api.ErrNone {
			t.Errorf("of %x", x)
		}
	}
	if n, is := a.Read(h); !is || n != (chain.Node{V: api.Version{Writer: 1, Value: "abc"}}) || a.Used() != 1 {
		t.Error("what was refused changed something:", n)
	}
}

// P17.1: an arena of such slots is full, when it is.
func TestFull(t *testing.T) {
	a := make1(t, 229) // slots of 256 bytes: one byte more, and a page has one less
	most := api.PageSize / (27 + 229) * api.MaxPages
	var last api.Handle
	for range most {
		last = add(t, a, api.Version{Writer: 1, Value: "v"}, 0)
	}
	if h, e := a.Make(api.Version{Writer: 1}, 0); h != 0 || e != api.ErrFull {
		t.Error(h, e)
	}
	if h, e := a.Make(api.Version{}, 0); h != 0 || e != api.ErrArg {
		t.Error("the row of the errors:", h, e)
	}
	if a.Free(last) != api.OK || a.Used() != most-1 {
		t.Error(a.Used())
	}
	add(t, a, api.Version{Writer: 1}, 0)
}

// P17.7: what is done to the one is not seen by the other.
func TestCopies(t *testing.T) {
	for turn := range 2 {
		a := make1(t, 3)
		h := add(t, a, api.Version{Writer: 1, Value: "a"}, 0)
		k := add(t, a, api.Version{Writer: 2, Tomb: true}, h)
		o := &world{named: map[api.Handle]chain.Node{h: {V: api.Version{Writer: 1, Value: "a"}}, k: {V: api.Version{Writer: 2, Tomb: true}, Next: h}}, all: []api.Handle{h, k}}
		b := a.Copy()
		if turn == 1 {
			a, b = b, a
		}
		a.Stamp(h, 5)
		a.Change(k, api.Version{Writer: 3, Value: "c"})
		add(t, a, api.Version{Writer: 4}, k)
		o.check(t, b)
		a.Cut(k)
		a.Free(h)
		o.check(t, b)
		if e := b.Change(k, api.Version{Writer: 9, Value: "abc"}); e != api.OK {
			t.Error("the copy's config:", e)
		}
		if n, _ := a.Read(k); n.V.Writer != 3 {
			t.Error("what is done to the other one is seen:", n)
		}
	}
}

// R1: of nil.
func TestNil(t *testing.T) {
	var a *chain.Chains
	if n, is := a.Read(1); is || n != (chain.Node{}) {
		t.Error(n, is)
	}
	if h, e := a.Make(api.Version{}, 0); h != 0 || e != api.ErrNil {
		t.Error(h, e)
	}
	if a.Change(1, api.Version{}) != api.ErrNil || a.Stamp(1, 0) != api.ErrNil || a.Cut(1) != api.ErrNil || a.Free(1) != api.ErrNil {
		t.Error("Change, Stamp, Cut, Free")
	}
	if len(a.List(1)) != 0 || a.Used() != 0 || a.Copy() != nil {
		t.Error("of nil")
	}
}

func TestExamples(t *testing.T) {
	a := make1(t, 3)
	h := add(t, a, api.Version{Writer: 1, Value: "a"}, 0)
	k := add(t, a, api.Version{Writer: 2, Tomb: true}, h)
	if l := a.List(k); !slices.Equal(l, []api.Version{{Writer: 2, Tomb: true}, {Writer: 1, Value: "a"}}) {
		t.Error(l)
	}
	a.Stamp(h, 7)
	if l := a.List(h); !slices.Equal(l, []api.Version{{Writer: 1, TS: 7, Value: "a"}}) {
		t.Error(l)
	}
	if _, e := a.Make(api.Version{Writer: 1, Value: "abcd"}, 0); e != api.ErrArg {
		t.Error(e)
	}
	a.Cut(k)
	if l := a.List(k); !slices.Equal(l, []api.Version{{Writer: 2, Tomb: true}}) {
		t.Error(l)
	}
	a.Free(h)
	if _, is := a.Read(h); is || a.Used() != 1 {
		t.Error(a.Used())
	}
}
