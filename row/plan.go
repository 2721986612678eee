package row

import (
	"slices"

	"ferryman/api"
)

// Plan is steps that are to be done one by one, each of which does one thing.
type Plan struct{ steps []func(s *Shop) }

// then puts a step behind the others.
func (p *Plan) then(step func(s *Shop)) { p.steps = append(p.steps, step) }

// Step is the next step, if there is one; whether none is left.
func (p *Plan) Step(s *Shop) bool {
	if p == nil || s == nil {
		return true
	}
	if len(p.steps) > 0 {
		step := p.steps[0]
		p.steps = p.steps[1:]
		step(s)
	}
	return len(p.steps) == 0
}

// Len tells how many steps are left.
func (p *Plan) Len() int {
	if p == nil {
		return 0
	}
	return len(p.steps)
}

// anchor is a step by which the anchor is another one.
func (p *Plan) anchor(r Row, engine uint8, row api.Handle) {
	p.then(func(s *Shop) { s.Set(r.Anchor, engine, row) })
}

// free is a step for each slot of an engine, by which it is given back.
func (p *Plan) free(engine uint8, list []api.Handle) {
	for _, h := range list {
		p.then(func(s *Shop) {
			if engine == api.Chains {
				s.A.Free(h)
			} else {
				s.B.Free(h)
			}
		})
	}
}

// Off takes the newest version off.
func Off(r Row) (*Plan, Row) {
	p, r := &Plan{}, r.own()
	if !r.may() || len(r.Slots) == 0 {
		return p, r
	}
	first, second := r.Slots[0], r.slot(1)
	left := r.own()
	left.Versions = left.Versions[1:]
	if r.Engine == api.Undo && second != 0 {
		older, third := r.Versions[1], r.slot(2)
		p.then(func(s *Shop) { s.B.Change(first, older, third) })
		p.free(r.Engine, r.Slots[1:2])
		left.Slots = slices.Delete(left.Slots, 1, 2)
		return p, left
	}
	p.anchor(r, r.Engine, second)
	p.free(r.Engine, r.Slots[:1])
	left.Slots = left.Slots[1:]
	return p, left
}

// Sweep leaves the first k versions.
func Sweep(r Row, k int) (*Plan, Row) {
	p, r := &Plan{}, r.own()
	k = r.most(k)
	if !r.may() || k == len(r.Slots) {
		return p, r
	}
	p.cut(r, k)
	p.free(r.Engine, r.Slots[k:])
	left := r.own()
	left.Slots, left.Versions = left.Slots[:k], left.Versions[:k]
	return p, left
}

// most tells k, or as much of it as the row has.
func (r Row) most(k int) int { return max(0, min(k, len(r.Slots))) }

// cut is a step by which nothing stands behind the k-th version.
func (p *Plan) cut(r Row, k int) {
	if k == 0 {
		p.anchor(r, r.Engine, 0)
		return
	}
	last := r.Slots[k-1]
	p.then(func(s *Shop) {
		switch {
		case r.Engine == api.Chains:
			s.A.Cut(last)
		case k == 1:
			s.B.Change(last, r.Versions[0], 0)
		default:
			s.B.Cut(last)
		}
	})
}

// Put puts a writer's version on, as its own (in the place of the newest one), or as another one.
func Put(r Row, v api.Version, own bool) *Plan {
	p, r := &Plan{}, r.own()
	v.TS = 0
	switch own = own && len(r.Slots) > 0; {
	case !r.may():
	case r.Engine == api.Chains:
		p.putChain(r, v, own)
	default:
		p.putUndo(r, v, own)
	}
	return p
}

func (p *Plan) putChain(r Row, v api.Version, own bool) {
	if own {
		p.then(func(s *Shop) { s.A.Change(r.Slots[0], v) })
		return
	}
	var made api.Handle
	p.then(func(s *Shop) { made, _ = s.A.Make(v, r.slot(0)) })
	p.made(r, r.Engine, &made)
}

// made is a step by which the anchor's row is one that a step ahead has made, if it has.
func (p *Plan) made(r Row, engine uint8, row *api.Handle) {
	p.then(func(s *Shop) {
		if *row != 0 {
			s.Set(r.Anchor, engine, *row)
		}
	})
}

func (p *Plan) putUndo(r Row, v api.Version, own bool) {
	var made api.Handle
	switch {
	case len(r.Slots) == 0:
		p.then(func(s *Shop) { made, _ = s.B.Make(v, 0) })
		p.made(r, r.Engine, &made)
	case own && len(r.Slots) == 1:
		p.then(func(s *Shop) { s.B.Change(r.Slots[0], v, 0) })
	case own: // the record behind is told by the version that is no more
		p.then(func(s *Shop) { made, _ = s.B.Save(r.Versions[1], r.slot(2), v) })
		p.then(func(s *Shop) { s.B.Change(r.Slots[0], v, made) })
		p.free(r.Engine, r.Slots[1:2])
	default:
		p.then(func(s *Shop) { made, _ = s.B.Save(r.Versions[0], r.slot(1), v) })
		p.then(func(s *Shop) { s.B.Change(r.Slots[0], v, made) })
	}
}

// Move puts the first k versions together anew in the other engine, and gives back what was there.
func Move(r Row, k int, to uint8) *Plan {
	p, r := &Plan{}, r.own()
	if !r.may() || !known(to) || to == r.Engine {
		return p
	}
	kept := clean(r.Versions[:r.most(k)])
	var row api.Handle
	if to == api.Undo {
		p.build(kept, &row)
	} else {
		p.link(kept, &row)
	}
	if len(kept) == 0 {
		p.anchor(r, to, 0)
	} else {
		p.made(r, to, &row)
	}
	p.free(r.Engine, r.Slots)
	return p
}

// clean is a list of versions without timestamps.
func clean(l []api.Version) []api.Version {
	l = slices.Clone(l)
	for k := range l {
		l[k].TS = 0
	}
	return l
}

// build makes a row with records, from the oldest version on.
func (p *Plan) build(l []api.Version, row *api.Handle) {
	var record api.Handle
	for k := len(l) - 1; k >= 0; k-- {
		if k == len(l)-1 {
			p.then(func(s *Shop) { *row, _ = s.B.Make(l[k], 0) })
			continue
		}
		p.then(func(s *Shop) { record, _ = s.B.Save(l[k+1], record, l[k]) })
		p.then(func(s *Shop) { s.B.Change(*row, l[k], record) })
	}
}

// link makes a chain, from the oldest version on.
func (p *Plan) link(l []api.Version, top *api.Handle) {
	for k := len(l) - 1; k >= 0; k-- {
		p.then(func(s *Shop) { *top, _ = s.A.Make(l[k], *top) })
	}
}
