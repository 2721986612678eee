package ends

import (
	"ferryman/api"
	"ferryman/fork"
	"ferryman/row"
)

// Remove takes a key out, if it may be.
type Remove struct {
	next    func(r *Remove, s *row.Shop, task int) // what it does next; nil: it is done
	find    *Find
	anchor  api.Handle
	collect *row.Collect
	plan    *row.Plan
}

// NewRemove makes taking out that has done nothing.
func NewRemove(key string) *Remove {
	return &Remove{next: (*Remove).seek, find: NewFind(fork.Delete, key)}
}

// Step is one step; whether it is done by now.
func (r *Remove) Step(s *row.Shop, task int) bool {
	if r == nil || s == nil || r.next == nil {
		return true
	}
	r.next(r, s, task)
	return r.next == nil
}

func (r *Remove) seek(s *row.Shop, task int) {
	if !r.find.Step(s, task) {
		return
	}
	anchor, has := r.find.Anchor()
	if !has {
		r.find.Crab().Leave(s.Latches, task)
		r.next = nil
		return
	}
	r.anchor = anchor
	r.collect = row.NewCollect(anchor)
	r.next = (*Remove).gather
}

func (r *Remove) gather(s *row.Shop, _ int) {
	if r.collect.Step(s) {
		r.next = (*Remove).sort
	}
}

// sort asks the table whether there is anything that is to stay.
func (r *Remove) sort(s *row.Shop, task int) {
	found := r.collect.Row()
	intents, keep := s.Table.Sort(found.Versions)
	if intents > 0 || keep > 0 {
		r.letGo(s, task)
		return
	}
	r.plan, _ = row.Sweep(found, 0)
	r.next = (*Remove).sweep
	if r.plan.Len() == 0 {
		r.next = (*Remove).take
	}
}

func (r *Remove) sweep(s *row.Shop, _ int) {
	if r.plan.Step(s) {
		r.next = (*Remove).take
	}
}

func (r *Remove) take(s *row.Shop, _ int) {
	if r.find.Crab().Take(s.Tree) {
		r.next = (*Remove).giveBack
	}
}

func (r *Remove) giveBack(s *row.Shop, task int) {
	s.Gone(r.anchor)
	r.letGo(s, task)
}

// letGo lets go of all; it is done by that.
func (r *Remove) letGo(s *row.Shop, task int) {
	r.find.Crab().Leave(s.Latches, task)
	s.Latches.Drop(anchorLatch(r.anchor), task)
	r.next = nil
}
