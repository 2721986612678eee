package ends

import (
	"ferryman/api"
	"ferryman/crab"
	"ferryman/fork"
	"ferryman/latch"
	"ferryman/row"
)

func anchorLatch(anchor api.Handle) latch.Name {
	return latch.Name{Kind: crab.Anchor, ID: uint64(anchor)}
}

// Find finds a key.
type Find struct {
	mode    uint8
	crab    *crab.Crab
	arrived bool
	anchor  api.Handle
	has     bool // the leaf has the key
	done    bool
}

// NewFind makes finding that has done nothing.
func NewFind(mode uint8, key string) *Find {
	return &Find{mode: mode, crab: crab.New(mode, key)}
}

// Step is one step; whether it is done by now.
func (f *Find) Step(s *row.Shop, task int) bool {
	if f == nil || s == nil || f.done {
		return true
	}
	if f.arrived {
		f.done = f.try(s, task)
		return f.done
	}
	f.arrived = f.crab.Step(s.Tree, s.Latches, task)
	if f.arrived {
		f.anchor, f.has = f.crab.Row(s.Tree)
		f.done = !f.has
	}
	return f.done
}

// try tries the anchor's latch. Who is to take the key out goes on holding all that the descent does.
func (f *Find) try(s *row.Shop, task int) bool {
	if f.mode != fork.Delete {
		f.crab.Loose(s.Latches, task)
	}
	if !s.Latches.Try(anchorLatch(f.anchor), task) {
		return false
	}
	if f.mode != fork.Delete {
		f.crab.Leave(s.Latches, task)
	}
	return true
}

// Anchor tells the anchor that is held, when it is done; no: the leaf has not the key.
func (f *Find) Anchor() (api.Handle, bool) {
	if f == nil || !f.done || !f.has {
		return 0, false
	}
	return f.anchor, true
}

// Crab tells the descent.
func (f *Find) Crab() *crab.Crab {
	if f == nil {
		return nil
	}
	return f.crab
}
