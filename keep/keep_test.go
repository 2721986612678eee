package keep_test

import (
	"math"
	"math/rand"
	"slices"
	"testing"

	"ferryman/api"
	"ferryman/keep"
)

func v(ts int, value string) api.Version { return api.Version{Writer: ts + 100, TS: ts, Value: value} }
func tomb(ts int) api.Version            { return api.Version{Writer: ts + 100, TS: ts, Tomb: true} }

// legal is some list that may be, of timestamps up to 12.
func legal(r *rand.Rand) []api.Version {
	var l []api.Version
	for ts := 12; ts >= 1; ts-- {
		switch r.Intn(6) {
		case 0:
			l = append(l, v(ts, string(rune('a'+ts))))
		case 1:
			l = append(l, tomb(ts))
		}
	}
	return l
}

// any1 is whatever list.
func any1(r *rand.Rand) []api.Version {
	var l []api.Version
	for range r.Intn(7) {
		l = append(l, api.Version{Writer: r.Intn(3), TS: r.Intn(9) - 2, Tomb: r.Intn(2) == 0, Value: string(rune('a' + r.Intn(3)))})
	}
	return l
}

// newest tells by the words the place of the newest one up to a number.
func newest(l []api.Version, number int) int {
	return slices.IndexFunc(l, func(x api.Version) bool { return x.TS <= number })
}

func kept(l []api.Version, floor int) []api.Version {
	k := newest(l, floor)
	switch {
	case k < 0:
		return l
	case l[k].Tomb:
		return l[:k]
	}
	return l[:k+1]
}

func seen(l []api.Version, snapshot int) (api.Version, bool) {
	if k := newest(l, snapshot); k >= 0 && !l[k].Tomb {
		return l[k], true
	}
	return api.Version{}, false
}

var numbers = []int{math.MinInt, -3, -1, 0, 1, 2, 3, 4, 5, 6, 7, 8, 9, 10, 11, 12, 13, math.MaxInt}

// P11.1: of whatever list.
func TestWhatever(t *testing.T) {
	r := rand.New(rand.NewSource(1))
	for n := range 4000 {
		l := any1(r)
		if n%2 == 0 {
			l = legal(r)
		}
		before := slices.Clone(l)
		for _, x := range numbers {
			if got := keep.Kept(l, x); !slices.Equal(got, kept(l, x)) {
				t.Fatalf("%v kept by %d: %v", l, x, got)
			}
			got, is := keep.Seen(l, x)
			if want, has := seen(l, x); got != want || is != has {
				t.Fatalf("%v seen by %d: %v, %v", l, x, got, is)
			}
			if keep.Clash(l, x) != (len(l) > 0 && l[0].TS > x) {
				t.Fatalf("%v, by %d: clash", l, x)
			}
		}
		may := true
		for k := range l {
			may = may && l[k].TS >= 1 && (k == 0 || l[k].TS < l[k-1].TS)
		}
		if keep.Legal(l) != may {
			t.Fatalf("%v: legal: %v", l, !may)
		}
		if !slices.Equal(l, before) {
			t.Fatal("what was handed in is otherwise now")
		}
	}
}

// P11.1: lists that may be, and such as may not.
func TestLegal(t *testing.T) {
	for _, l := range [][]api.Version{nil, {}, {v(1, "")}, {tomb(2), tomb(1)}, {v(math.MaxInt, ""), v(7, ""), tomb(1)}} {
		if !keep.Legal(l) {
			t.Error(l)
		}
	}
	for _, l := range [][]api.Version{{v(0, "")}, {v(-1, "")}, {v(2, ""), v(2, "")}, {v(2, ""), v(3, "")}, {v(2, ""), v(1, ""), v(0, "")}, {v(9, ""), v(3, ""), v(4, "")}} {
		if keep.Legal(l) {
			t.Error(l)
		}
	}
}

// P11.3 to P11.5: nothing is lost, and nothing left over; step by step.
func TestFloors(t *testing.T) {
	r := rand.New(rand.NewSource(2))
	for range 3000 {
		l := legal(r)
		floor := r.Intn(14)
		k := keep.Kept(l, floor)
		if !keep.Legal(k) {
			t.Fatalf("%v kept by %d: %v may not be", l, floor, k)
		}
		for s := floor; s < 15; s++ {
			a, is := keep.Seen(l, s)
			if b, had := keep.Seen(k, s); a != b || is != had || keep.Clash(l, s) != keep.Clash(k, s) {
				t.Fatalf("%v kept by %d: otherwise by the snapshot %d", l, floor, s)
			}
			if !keep.Same(keep.Kept(k, s), keep.Kept(l, s)) {
				t.Fatalf("%v kept by %d, then %d: %v", l, floor, s, keep.Kept(k, s))
			}
		}
		if !keep.Same(keep.Kept(k, floor), k) {
			t.Fatalf("%v kept by %d once more", l, floor)
		}
		told, low := map[int]int{}, 0
		for s := floor; s < 15; s++ {
			if n := newest(k, s); n >= 0 {
				told[n]++
			}
		}
		for _, x := range k {
			if x.TS <= floor {
				low++
				if x.Tomb {
					t.Fatalf("%v kept by %d: a tomb", l, floor)
				}
			}
		}
		if len(told) != len(k) || low > 1 {
			t.Fatalf("%v kept by %d: %v, of which something is left over", l, floor, k)
		}
	}
}

// P11.6: one more.
func TestOneMore(t *testing.T) {
	r := rand.New(rand.NewSource(3))
	for range 500 {
		l := legal(r)
		one := append([]api.Version{{TS: 15, Writer: 9, Tomb: r.Intn(2) == 0, Value: "new"}}, l...)
		for s := range 20 {
			got, is := keep.Seen(one, s)
			want, has := keep.Seen(l, s)
			if s >= 15 {
				want, has = one[0], !one[0].Tomb
			}
			if has && (got != want || !is) || !has && is {
				t.Fatalf("%v by %d: %v, %v", one, s, got, is)
			}
		}
	}
}

// P11.2: the same, with writers and values.
func TestSame(t *testing.T) {
	l := []api.Version{v(9, "b"), tomb(6), v(4, "a")}
	if !keep.Same(l, slices.Clone(l)) || !keep.Same(nil, []api.Version{}) || keep.Same(l, l[:2]) || keep.Same(l[:2], l) || keep.Same(nil, l) {
		t.Error("Same")
	}
	for k := range l {
		for what := range 4 {
			o := slices.Clone(l)
			switch what {
			case 0:
				o[k].Writer++
			case 1:
				o[k].TS++
			case 2:
				o[k].Tomb = !o[k].Tomb
			case 3:
				o[k].Value += "x"
			}
			if keep.Same(l, o) || keep.Same(o, l) {
				t.Errorf("%v, %v", l, o)
			}
		}
	}
}

// R1: what is told shares no memory, nor has it room behind it that is the list's.
func TestApart(t *testing.T) {
	l := []api.Version{v(9, "b"), tomb(6), v(4, "a"), v(2, "c")}
	before := slices.Clone(l)
	for _, floor := range []int{1, 5, 7, 20} {
		k := keep.Kept(l, floor)
		_ = append(k, v(99, "more"))
		for i := range k {
			k[i].Value = "changed"
		}
		if !slices.Equal(l, before) {
			t.Fatalf("kept by %d: %v", floor, l)
		}
	}
	if len(keep.Kept(nil, 1)) != 0 || keep.Clash(nil, math.MinInt) {
		t.Error("of nothing")
	}
}

func TestExamples(t *testing.T) {
	l := []api.Version{v(9, "b"), tomb(6), v(4, "a"), v(2, "c")}
	for _, x := range []struct{ floor, n int }{{7, 1}, {5, 3}, {1, 4}, {9, 1}} {
		if got := keep.Kept(l, x.floor); !slices.Equal(got, l[:x.n]) {
			t.Error(x.floor, got)
		}
	}
	if _, is := keep.Seen(l, 8); is {
		t.Error("8")
	}
	if got, is := keep.Seen(l, 5); !is || got != l[2] {
		t.Error("5:", got)
	}
	if _, is := keep.Seen(l, 1); is {
		t.Error("1")
	}
	if !keep.Clash(l, 8) || keep.Clash(l, 9) {
		t.Error("Clash")
	}
	if got := keep.Kept([]api.Version{tomb(6)}, 6); len(got) != 0 {
		t.Error(got)
	}
}
