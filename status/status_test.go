package status_test

import (
	"math"
	"math/rand"
	"slices"
	"testing"

	"ferryman/api"
	"ferryman/status"
)

// twin is writers by the words.
type twin struct {
	state []uint8
	ts    []int
	last  int
}

func (w *twin) is(n int) (uint8, bool) {
	if n < 1 || n > len(w.state) {
		return 0, false
	}
	return w.state[n-1], true
}

func (w *twin) commit(n, ts int) api.Errno {
	state, is := w.is(n)
	switch {
	case !is:
		return api.ErrNone
	case state != status.Active:
		return api.ErrState
	case ts != 0 && !(ts > w.last && ts <= api.MaxTS):
		return api.ErrArg
	}
	w.state[n-1], w.ts[n-1] = status.Committed, ts
	if ts != 0 {
		w.last = ts
	}
	return api.OK
}

func (w *twin) turn(n int, from, to uint8) api.Errno {
	state, is := w.is(n)
	if !is {
		return api.ErrNone
	}
	if state != from {
		return api.ErrState
	}
	w.state[n-1] = to
	return api.OK
}

func (w *twin) check(t *testing.T, s *status.Writers) {
	t.Helper()
	var busy []int
	active := 0
	for n := -1; n <= len(w.state)+2; n++ {
		want, is := w.is(n)
		ts := 0
		if is {
			ts = w.ts[n-1]
		}
		if state, got := s.Of(n); state != want || got != ts {
			t.Fatalf("Of(%d): %d, %d, not %d, %d", n, state, got, want, ts)
		}
		if want == status.Active || want == status.Falling {
			busy = append(busy, n)
		}
		if want == status.Active {
			active++
		}
	}
	if got := s.Busy(); !slices.Equal(got, busy) {
		t.Fatalf("Busy: %v, not %v", got, busy)
	}
	if s.Active() != active || s.High() != len(w.state)+1 || s.Last() != w.last {
		t.Fatalf("Active %d, High %d, Last %d, not %d, %d, %d", s.Active(), s.High(), s.Last(), active, len(w.state)+1, w.last)
	}
}

// P8.2: the numbers of what a writer is.
func TestNumbers(t *testing.T) {
	if status.None != 0 || status.Active != 1 || status.Falling != 2 || status.Committed != 3 || status.Aborted != 4 {
		t.Error("None, Active, Falling, Committed, Aborted")
	}
	(&twin{}).check(t, status.New())
}

// P8.1 to P8.6: whatever is asked.
func TestWhatever(t *testing.T) {
	for seed := range 30 {
		r := rand.New(rand.NewSource(int64(seed)))
		s, w := status.New(), &twin{}
		for range 200 {
			n := 1 + r.Intn(len(w.state)+1)
			if r.Intn(20) == 0 {
				n = []int{math.MinInt, -1, 0, len(w.state) + 1, math.MaxInt}[r.Intn(5)]
			} else if r.Intn(2) == 0 {
				n = max(1, len(w.state)-r.Intn(4))
			}
			before := slices.Clone(w.state)
			switch k := r.Intn(7); {
			case k == 0:
				w.state, w.ts = append(w.state, status.Active), append(w.ts, 0)
				if got := s.Begin(); got != len(w.state) {
					t.Fatalf("Begin: %d, not %d", got, len(w.state))
				}
			case k <= 2:
				ts := []int{0, w.last - 1, w.last, w.last + 1, w.last + 1, w.last + 5, -1, math.MinInt, math.MaxInt, api.MaxTS + 1}[r.Intn(10)]
				if got, want := s.Commit(n, ts), w.commit(n, ts); got != want {
					t.Fatalf("Commit(%d, %d) behind %d: %v, not %v", n, ts, w.last, got, want)
				}
			case k <= 4:
				if got, want := s.Fall(n), w.turn(n, status.Active, status.Falling); got != want {
					t.Fatalf("Fall(%d): %v, not %v", n, got, want)
				}
			default:
				if got, want := s.Fallen(n), w.turn(n, status.Falling, status.Aborted); got != want {
					t.Fatalf("Fallen(%d): %v, not %v", n, got, want)
				}
			}
			for k, state := range before {
				if now, _ := s.Of(k + 1); now < state {
					t.Fatalf("the writer %d was %d, and is %d", k+1, state, now)
				}
			}
			w.check(t, s)
		}
	}
}

// P8.1: each thing of each state; and the row of the errors.
func TestErrors(t *testing.T) {
	make1 := func() *status.Writers {
		s := status.New()
		for range 5 {
			s.Begin()
		}
		s.Fall(2)
		s.Commit(3, 7)
		s.Fall(4)
		s.Fallen(4)
		s.Commit(5, 0)
		return s
	}
	for n := -1; n <= 6; n++ {
		want := api.ErrState
		if n < 1 || n > 5 {
			want = api.ErrNone
		}
		for _, ts := range []int{0, 6, 7, 8, -3, api.MaxTS + 1} {
			of := want
			if n == 1 {
				of = api.OK
				if ts != 0 && ts != 8 {
					of = api.ErrArg
				}
			}
			if e := make1().Commit(n, ts); e != of {
				t.Errorf("Commit(%d, %d): %v, not %v", n, ts, e, of)
			}
		}
		of := want
		if n == 1 {
			of = api.OK
		}
		if e := make1().Fall(n); e != of {
			t.Errorf("Fall(%d): %v", n, e)
		}
		of = want
		if n == 2 {
			of = api.OK
		}
		if e := make1().Fallen(n); e != of {
			t.Errorf("Fallen(%d): %v", n, e)
		}
	}
	s := make1()
	if e := s.Commit(1, api.MaxTS); e != api.OK || s.Last() != api.MaxTS {
		t.Error("the greatest timestamp:", e, s.Last())
	}
	s.Begin()
	if e := s.Commit(6, api.MaxTS+1); e != api.ErrArg {
		t.Error("one more:", e)
	}
	if state, _ := s.Of(6); state != status.Active {
		t.Error("what was refused changed:", state)
	}
	if e := s.Commit(6, 0); e != api.OK || s.Last() != api.MaxTS {
		t.Error("nothing committed:", e, s.Last())
	}
}

// P8.6, R1: what is told, and copies.
func TestApart(t *testing.T) {
	for turn := range 2 {
		a := status.New()
		for range 4 {
			a.Begin()
		}
		a.Fall(2)
		a.Commit(3, 5)
		told := a.Busy()
		told[0] = 99
		if got := a.Busy(); !slices.Equal(got, []int{1, 2, 4}) {
			t.Error("what was told is kept:", got)
		}
		b := a.Copy()
		if turn == 1 {
			a, b = b, a
		}
		a.Commit(1, 9)
		a.Fallen(2)
		a.Fall(4)
		a.Begin()
		(&twin{state: []uint8{1, 2, 3, 1}, ts: []int{0, 0, 5, 0}, last: 5}).check(t, b)
		b.Begin()
		b.Commit(5, 6)
		(&twin{state: []uint8{3, 4, 3, 2, 1}, ts: []int{9, 0, 5, 0, 0}, last: 9}).check(t, a)
	}
}

// R1: of nil.
func TestNil(t *testing.T) {
	var s *status.Writers
	if s.Begin() != 0 || s.Commit(1, -1) != api.ErrNil || s.Fall(1) != api.ErrNil || s.Fallen(1) != api.ErrNil {
		t.Error("Begin, Commit, Fall, Fallen")
	}
	if state, ts := s.Of(1); state != 0 || ts != 0 || len(s.Busy()) != 0 || s.Active() != 0 || s.High() != 0 || s.Last() != 0 || s.Copy() != nil {
		t.Error("of nil")
	}
}

func TestExamples(t *testing.T) {
	s := status.New()
	if a, b := s.Begin(), s.Begin(); a != 1 || b != 2 {
		t.Error(a, b)
	}
	if a, b, c, d := s.Commit(1, 5), s.Commit(1, 6), s.Commit(2, 5), s.Fall(2); a != api.OK || b != api.ErrState || c != api.ErrArg || d != api.OK {
		t.Error(a, b, c, d)
	}
	if l := s.Busy(); !slices.Equal(l, []int{2}) || s.Active() != 0 {
		t.Error(l, s.Active())
	}
	if a, b := s.Commit(2, 6), s.Fallen(2); a != api.ErrState || b != api.OK || len(s.Busy()) != 0 {
		t.Error(a, b)
	}
	if state, ts := s.Of(1); state != status.Committed || ts != 5 {
		t.Error(state, ts)
	}
	if state, _ := s.Of(3); state != status.None || s.High() != 3 || s.Last() != 5 {
		t.Error(state, s.High(), s.Last())
	}
}
