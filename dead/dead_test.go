package dead_test

import (
	"math"
	"math/rand"
	"slices"
	"testing"

	"ferryman/api"
	"ferryman/dead"
)

// counts tells by the words what there is of a list of timestamps.
func counts(l []int) []dead.Count {
	var out []dead.Count
	l = slices.Clone(l)
	slices.Sort(l)
	for _, ts := range l {
		if n := len(out); n > 0 && out[n-1].TS == ts {
			out[n-1].N++
		} else {
			out = append(out, dead.Count{TS: ts, N: 1})
		}
	}
	return out
}

func check(t *testing.T, d *dead.Dead, l []int) {
	t.Helper()
	want := counts(l)
	if got := d.Counts(); !slices.Equal(got, want) {
		t.Fatalf("Counts: %v, not %v", got, want)
	}
	if d.All() != len(l) {
		t.Fatalf("All: %d, not %d", d.All(), len(l))
	}
	for _, c := range want {
		if d.Of(c.TS) != c.N {
			t.Fatalf("Of(%d): %d, not %d", c.TS, d.Of(c.TS), c.N)
		}
	}
	for _, ts := range []int{-1, 0, api.MaxTS + 1, 12345} {
		if !slices.Contains(l, ts) && d.Of(ts) != 0 {
			t.Fatalf("Of(%d): %d", ts, d.Of(ts))
		}
	}
}

// P10.1 to P10.3, P10.5: whatever is added, taken, passed.
func TestWhatever(t *testing.T) {
	for seed := range 30 {
		r := rand.New(rand.NewSource(int64(seed)))
		d := dead.New()
		var l []int
		for range 300 {
			ts := r.Intn(14) - 1
			if r.Intn(20) == 0 {
				ts = []int{math.MinInt, math.MaxInt, api.MaxTS, api.MaxTS + 1}[r.Intn(4)]
			}
			switch k := r.Intn(20); {
			case k < 12:
				want := api.OK
				if ts < 1 || ts > api.MaxTS {
					want = api.ErrArg
				} else if len(l) == api.MaxKeys {
					want = api.ErrFull
				} else {
					l = append(l, ts)
				}
				if got := d.Add(ts); got != want {
					t.Fatalf("Add(%d) to %v: %v, not %v", ts, counts(l), got, want)
				}
			case k < 19:
				at := slices.Index(l, ts)
				if got := d.Less(ts); got != (at >= 0) {
					t.Fatalf("Less(%d) of %v: %v", ts, counts(l), got)
				}
				if at >= 0 {
					l = slices.Delete(l, at, at+1)
				}
			default:
				n := len(l)
				l = slices.DeleteFunc(l, func(x int) bool { return x <= ts })
				if got := d.Pass(ts); got != n-len(l) {
					t.Fatalf("Pass(%d): %d, not %d", ts, got, n-len(l))
				}
			}
			check(t, d, l)
		}
	}
}

// P10.1: the errors, in their row.
func TestErrors(t *testing.T) {
	d := dead.New()
	for _, ts := range []int{math.MinInt, -1, 0, api.MaxTS + 1, math.MaxInt} {
		if e := d.Add(ts); e != api.ErrArg {
			t.Errorf("Add(%d): %v", ts, e)
		}
	}
	var l []int
	for k := range api.MaxKeys {
		ts := []int{1, api.MaxTS, 7}[k%3]
		if e := d.Add(ts); e != api.OK {
			t.Errorf("Add(%d), the %d-th one: %v", ts, k, e)
		}
		l = append(l, ts)
	}
	for _, ts := range []int{1, 7, 8, api.MaxTS} {
		if e := d.Add(ts); e != api.ErrFull {
			t.Errorf("one more: %v", e)
		}
	}
	if e := d.Add(0); e != api.ErrArg {
		t.Errorf("the row of the errors: %v", e)
	}
	check(t, d, l)
	if !d.Less(7) || d.Add(8) != api.OK || d.Add(8) != api.ErrFull {
		t.Error("one less, one more")
	}
}

// P10.4: in whatever row; an Add, and a Less of it.
func TestInWhateverRow(t *testing.T) {
	r := rand.New(rand.NewSource(1))
	for range 200 {
		var l []int
		for range r.Intn(40) {
			l = append(l, 1+r.Intn(8))
		}
		a, b := dead.New(), dead.New()
		for _, ts := range l {
			a.Add(ts)
		}
		for _, k := range r.Perm(len(l)) {
			b.Add(l[k])
			extra := 1 + r.Intn(8)
			b.Add(extra)
			if !b.Less(extra) {
				t.Fatal("Less of what was added")
			}
		}
		check(t, a, l)
		check(t, b, l)
	}
}

// P10.5: one floor, and then another one.
func TestPass(t *testing.T) {
	r := rand.New(rand.NewSource(2))
	floors := []int{math.MinInt, -1, 0, 1, 2, 3, 4, 5, 6, 7, math.MaxInt}
	for range 300 {
		a, b := dead.New(), dead.New()
		for range r.Intn(30) {
			ts := 1 + r.Intn(6)
			a.Add(ts)
			b.Add(ts)
		}
		x, y := floors[r.Intn(len(floors))], floors[r.Intn(len(floors))]
		if one, other := a.Pass(x)+a.Pass(y), b.Pass(max(x, y)); one != other || !slices.Equal(a.Counts(), b.Counts()) {
			t.Fatalf("passed %d, and %d: %d, %v; at once %d, %v", x, y, one, a.Counts(), other, b.Counts())
		}
		if n := a.Pass(max(x, y)); n != 0 {
			t.Fatalf("passed once more: %d", n)
		}
	}
}

// P10.6: what was told, and copies.
func TestApart(t *testing.T) {
	for turn := range 2 {
		a := dead.New()
		for _, ts := range []int{5, 3, 5} {
			a.Add(ts)
		}
		told := a.Counts()
		told[0] = dead.Count{TS: 9, N: 9}
		check(t, a, []int{3, 5, 5})
		b := a.Copy()
		if turn == 1 {
			a, b = b, a
		}
		a.Pass(4)
		a.Less(5)
		a.Add(7)
		check(t, b, []int{3, 5, 5})
		b.Add(3)
		check(t, a, []int{5, 7})
		check(t, b, []int{3, 3, 5, 5})
	}
}

// P10.1, P10.2, R1: of nil.
func TestNil(t *testing.T) {
	var d *dead.Dead
	if d.Add(0) != api.ErrNil || d.Less(1) || d.Pass(9) != 0 || d.Of(1) != 0 || d.All() != 0 || len(d.Counts()) != 0 || d.Copy() != nil {
		t.Error("of nil")
	}
	check(t, dead.New(), nil)
}

func TestExamples(t *testing.T) {
	d := dead.New()
	for _, ts := range []int{5, 3, 5} {
		d.Add(ts)
	}
	if d.All() != 3 || d.Of(5) != 2 || !slices.Equal(d.Counts(), []dead.Count{{TS: 3, N: 1}, {TS: 5, N: 2}}) {
		t.Error(d.All(), d.Counts())
	}
	if d.Less(4) || !d.Less(5) || d.Pass(4) != 1 || d.All() != 1 || d.Add(0) != api.ErrArg {
		t.Error("Less, Pass, All, Add")
	}
}
