package axioms

import (
	"iter"
	"maps"
	"slices"

	"ferryman/api"
	"ferryman/text"
)

// state is what is written of keys, by keys.
type state map[string]Last

// all goes over the keys, rising, with what is written of them.
func (s state) all() iter.Seq2[string, Last] {
	return func(yield func(string, Last) bool) {
		for _, key := range slices.SortedFunc(maps.Keys(s), text.Compare) {
			if !yield(key, s[key]) {
				return
			}
		}
	}
}

// found tells what a Get of a key is to be answered.
func (s state) found(key string) (string, bool) {
	w, is := s[key]
	return w.Value, is && !w.Tomb
}

// asks tells whether a key is one of those of which it is asked.
type asks func(key string) bool

// reads tells whether an op was told what the state has, of those keys of which it is asked.
func (s state) reads(o Op, asked asks) bool {
	if o.Answer.Err != api.OK {
		return true
	}
	switch o.Call.Kind {
	case api.Get:
		value, found := s.found(o.Call.Key)
		return !asked(o.Call.Key) || o.Answer.Found == found && o.Answer.Value == value
	case api.Scan:
		return s.pairsAre(o, asked) && s.allTold(o, asked)
	}
	return true
}

// pairsAre tells whether each pair is as it is to be.
func (s state) pairsAre(o Op, asked asks) bool {
	for _, p := range o.Answer.Pairs {
		if value, found := s.found(p.Key); asked(p.Key) && !(found && p.Value == value) {
			return false
		}
	}
	return true
}

// allTold tells whether each key that is to be told is told, as far as the pairs go.
func (s state) allTold(o Op, asked asks) bool {
	pairs := o.Answer.Pairs
	told := map[string]struct{}{}
	for _, p := range pairs {
		told[p.Key] = struct{}{}
	}
	for key, w := range s.all() {
		if w.Tomb || !asked(key) || !text.Within(key, o.Call.Key, o.Call.End) {
			continue
		}
		reached := len(pairs) < o.Call.Limit || len(pairs) > 0 && text.Compare(key, pairs[len(pairs)-1].Key) < 0
		if _, has := told[key]; reached && !has {
			return false
		}
	}
	return true
}

// inRow tells whether a Scan's pairs rise, are of its part of the keys, and Limit at most.
func inRow(o Op) bool {
	if o.Answer.Err != api.OK || o.Call.Kind != api.Scan {
		return true
	}
	pairs := o.Answer.Pairs
	for k, p := range pairs {
		if k > 0 && text.Compare(pairs[k-1].Key, p.Key) >= 0 || !text.Within(p.Key, o.Call.Key, o.Call.End) {
			return false
		}
	}
	return len(pairs) == 0 || len(pairs) <= o.Call.Limit
}

// Int tells of one: of what its own ops ahead wrote it was told just that.
func Int(t Txn) bool {
	own := state{}
	wrote := func(key string) bool {
		_, is := own[key]
		return is
	}
	for _, o := range t.Ops {
		if !own.reads(o, wrote) {
			return false
		}
		if w, is := o.writes(); is {
			own[w.Key] = w
		}
	}
	return true
}

// sight is what a transaction wrote by now, and what it sees of others. It is put together anew for each.
type sight struct{ own, others state }

func newSight() sight { return sight{state{}, state{}} }

// look makes it what the one at place k sees, ahead of all its ops.
func (s sight) look(l []Txn, k int) {
	clear(s.own)
	clear(s.others)
	for _, i := range Visible(l, k) {
		for _, w := range Wrote(l[i]) {
			s.others[w.Key] = w
		}
	}
}

// ext tells EXT of the one at place k.
func (s sight) ext(l []Txn, k int) bool {
	s.look(l, k)
	wroteNot := func(key string) bool {
		_, is := s.own[key]
		return !is
	}
	for _, o := range l[k].Ops {
		if !inRow(o) || !s.others.reads(o, wroteNot) {
			return false
		}
		if w, is := o.writes(); is {
			s.own[w.Key] = w
		}
	}
	return true
}

// Ext tells of the one at place k: of what its own ops ahead did not write it was told what it sees.
func Ext(l []Txn, k int) bool {
	return k < 0 || k >= len(l) || newSight().ext(l, k)
}
