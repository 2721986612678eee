package ends

import (
	"ferryman/api"
	"ferryman/crab"
	"ferryman/fork"
	"ferryman/row"
	"ferryman/text"
)

// Walk walks from key to key.
type Walk struct {
	end    string
	crab   *crab.Crab
	key    string
	anchor api.Handle
	near   bool // it holds the leaf, and tries the anchor's latch
	at     bool
	over   bool
}

// NewWalk makes a walk that has done nothing.
func NewWalk(from, end string) *Walk {
	return &Walk{end: end, crab: crab.New(fork.Look, from)}
}

// Step is one step; whether it is at a key by now, or over.
func (w *Walk) Step(s *row.Shop, task int) bool {
	if w == nil || s == nil || w.at || w.over {
		return true
	}
	switch {
	case w.near:
		w.try(s, task)
	case w.crab.Step(s.Tree, s.Latches, task):
		w.arrive(s, task)
	}
	return w.at || w.over
}

func (w *Walk) try(s *row.Shop, task int) {
	if s.Latches.Try(anchorLatch(w.anchor), task) {
		w.crab.Leave(s.Latches, task)
		w.near, w.at = false, true
	}
}

// below tells whether a key is ahead of the end.
func (w *Walk) below(key string) bool { return text.Within(key, "", w.end) }

// arrive looks for the next key in the leaf; where there is none the walk goes on from the fence, or is over.
func (w *Walk) arrive(s *row.Shop, task int) {
	key, anchor, is := w.crab.Least(s.Tree)
	if is && w.below(key) {
		w.key, w.anchor, w.near = key, anchor, true
		return
	}
	fence, is := w.crab.Fence()
	w.crab.Leave(s.Latches, task)
	if is && w.below(fence) {
		w.crab = crab.New(fork.Look, fence)
		return
	}
	w.over = true
}

// At tells where it is; no: it is not at a key.
func (w *Walk) At() (key string, anchor api.Handle, is bool) {
	if w == nil || !w.at {
		return "", 0, false
	}
	return w.key, w.anchor, true
}

// Next lets go of the anchor; the walk goes on behind its key.
func (w *Walk) Next(s *row.Shop, task int) {
	if w == nil || s == nil || !w.at {
		return
	}
	s.Latches.Drop(anchorLatch(w.anchor), task)
	w.crab = crab.New(fork.Look, text.Next(w.key))
	w.at = false
}
