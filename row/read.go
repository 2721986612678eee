package row

import (
	"ferryman/api"
	"ferryman/chain"
	"ferryman/undo"
	"ferryman/view"
)

// slots are an engine's, as whoever goes over a row reads them: its newest version, and then the older ones.
type slots interface {
	first(h api.Handle) (v api.Version, next api.Handle, is bool)
	behind(h api.Handle, newer api.Version) (v api.Version, next api.Handle, is bool)
}

type chains struct{ a *chain.Chains }

func (c chains) first(h api.Handle) (api.Version, api.Handle, bool) {
	n, is := c.a.Read(h)
	return n.V, n.Next, is
}

func (c chains) behind(h api.Handle, _ api.Version) (api.Version, api.Handle, bool) {
	return c.first(h)
}

type undos struct{ u *undo.Undos }

func (u undos) first(h api.Handle) (api.Version, api.Handle, bool) { return u.u.Row(h) }

func (u undos) behind(h api.Handle, newer api.Version) (api.Version, api.Handle, bool) {
	return u.u.Record(h, newer)
}

func (s *Shop) slots(engine uint8) slots {
	if engine == api.Chains {
		return chains{s.A}
	}
	return undos{s.B}
}

// walk goes over a row: the anchor, then version by version.
type walk struct {
	anchor api.Handle
	engine uint8 // 0: the anchor was not read
	next   api.Handle
	newer  api.Version
	deep   bool // the newest version was read
	done   bool
}

// begin reads the anchor.
func (w *walk) begin(s *Shop) {
	engine, row, is := s.Anchor(w.anchor)
	if !is || !known(engine) {
		w.done = true
		return
	}
	w.engine = engine
	w.goTo(row)
}

// goTo says what is read next; 0: nothing.
func (w *walk) goTo(h api.Handle) {
	w.next = h
	w.done = h == 0
}

// read reads the version that is next, and tells what stands behind it; no: the handle names nothing.
func (w *walk) read(s *Shop) (v api.Version, behind api.Handle, is bool) {
	from := s.slots(w.engine)
	if w.deep {
		v, behind, is = from.behind(w.next, w.newer)
	} else {
		v, behind, is = from.first(w.next)
	}
	w.deep, w.newer = true, v
	w.done = !is
	return v, behind, is
}

// Collect collects a row.
type Collect struct {
	walk walk
	row  Row
}

// NewCollect makes collecting that has done nothing.
func NewCollect(anchor api.Handle) *Collect {
	return &Collect{walk: walk{anchor: anchor}, row: Row{Anchor: anchor}}
}

// Step is one step; whether it is done by now.
func (c *Collect) Step(s *Shop) bool {
	if c == nil || s == nil || c.walk.done {
		return true
	}
	if c.walk.engine == 0 {
		c.walk.begin(s)
		c.row.Engine = c.walk.engine
		return c.walk.done
	}
	h := c.walk.next
	if v, behind, is := c.walk.read(s); is {
		c.row.Slots = append(c.row.Slots, h)
		c.row.Versions = append(c.row.Versions, v)
		c.walk.goTo(behind)
	}
	return c.walk.done
}

// Row tells what was collected by now.
func (c *Collect) Row() Row {
	if c == nil {
		return Row{}
	}
	return c.row.own()
}

// See looks for the version that a transaction sees.
type See struct {
	walk        walk
	w, snapshot int
	view        view.View
	then        func(e *See, s *Shop) // what comes next of a version that is not stamped
	v           api.Version           // the version that is looked at
	behind      api.Handle
	ts          int
	seen        bool
}

// NewSee makes seeing that has done nothing.
func NewSee(anchor api.Handle, w, snapshot int, v view.View) *See {
	return &See{walk: walk{anchor: anchor}, w: w, snapshot: snapshot, view: view.Copy(v)}
}

// Step is one step; whether it is done by now.
func (e *See) Step(s *Shop) bool {
	if e == nil || s == nil || e.walk.done {
		return true
	}
	switch {
	case e.walk.engine == 0:
		e.walk.begin(s)
	case e.then != nil:
		e.then(e, s)
	default:
		e.look(s)
	}
	return e.walk.done
}

// look reads a version, and tells whether it is seen, as far as that is known.
func (e *See) look(s *Shop) {
	v, behind, is := e.walk.read(s)
	if !is {
		return
	}
	e.v, e.behind = v, behind
	switch {
	case e.walk.engine == api.Undo:
		e.judge(view.Sees(e.view, v.Writer))
	case v.Writer == e.w || v.TS != 0:
		e.judge(v.Writer == e.w || v.TS <= e.snapshot)
	default:
		e.then = (*See).ask
	}
}

// ask asks the table for the timestamp of a version that is not stamped.
func (e *See) ask(s *Shop) {
	e.then = nil
	ts, is := s.Table.TS(e.v.Writer)
	if !is {
		e.judge(false)
		return
	}
	e.ts = ts
	e.then = (*See).stamp
}

// stamp stamps the version.
func (e *See) stamp(s *Shop) {
	e.then = nil
	s.A.Stamp(e.walk.next, e.ts)
	e.v.TS = e.ts
	e.judge(e.ts <= e.snapshot)
}

// judge ends it by the version that is looked at, if that is seen; else it goes on.
func (e *See) judge(seen bool) {
	e.seen = seen
	e.walk.goTo(e.behind)
	e.walk.done = e.walk.done || seen
}

// Seen tells the version that is seen, if it is no tomb.
func (e *See) Seen() (api.Version, bool) {
	if e == nil || !e.seen || e.v.Tomb {
		return api.Version{}, false
	}
	return e.v, true
}
