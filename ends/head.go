package ends

import (
	"ferryman/api"
	"ferryman/call"
	"ferryman/row"
	"ferryman/status"
	"ferryman/view"
)

// Head is what a machine has by its first step.
type Head struct {
	Call     api.Call
	Txs      *call.Txs
	W        int
	Snapshot int
	View     view.View
	Told     api.Answer
	Looked   bool
}

// Look is the head's step; no: the call was refused.
func (h *Head) Look(s *row.Shop, task int) bool {
	if h == nil || s == nil {
		return false
	}
	if h.Looked {
		return h.Told.Err == api.OK
	}
	h.Looked = true
	w, e := h.refused(s)
	if e != api.OK {
		h.Told = api.Answer{Err: e}
		s.Log.Mark(task)
		return false
	}
	h.W = w
	h.Snapshot, _ = s.Table.Snapshot(w)
	h.View, _ = s.Table.View(w)
	return true
}

// refused tells the writer, and by what the call is refused, if at all.
func (h *Head) refused(s *row.Shop) (int, api.Errno) {
	if e := call.May(h.Call); e != api.OK {
		return 0, e
	}
	w := 0
	if call.Needs(h.Call.Kind) {
		var is bool
		if w, is = h.Txs.Of(h.Call.Tx); !is {
			return 0, api.NoTxn
		}
		if s.Table.State(w) != status.Active {
			return 0, api.Done
		}
	}
	return w, call.Fits(s.C, h.Call)
}
