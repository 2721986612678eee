package replay

import (
	"strconv"
	"strings"

	"ferryman/api"
	"ferryman/model"
)

// most is how many events a history may have of which it is asked whether it fits.
const most = 24

// withMarks tells a history with a Mark put ahead of each Return; no: it has a Mark.
func withMarks(l []api.Event) ([]api.Event, bool) {
	var out []api.Event
	for _, e := range l {
		if e.What == api.Mark {
			return nil, false
		}
		if e.What == api.Return {
			out = append(out, api.Event{What: api.Mark, Task: e.Task, Call: e.Call})
		}
		out = append(out, e)
	}
	return out, true
}

// place is where somebody who tries Marks is: at an event, with each task's call in a phase.
type place struct {
	at     int
	calls  [api.MaxTasks]int
	phases [api.MaxTasks]int
}

// Fits tells whether a history without Marks becomes right by some Marks.
func Fits(c api.Config, programs [][]api.Call, l []api.Event) (bool, api.Errno) {
	if !May(c, programs) {
		return false, api.ErrArg
	}
	if len(l) > most {
		return false, api.ErrTooLarge
	}
	full, bare := withMarks(l)
	if !bare {
		return false, api.ErrForm
	}
	if _, of := play(c, programs, full); !of {
		return false, api.ErrForm
	}
	m, _ := model.New(c)
	return fits(programs, l, returns(l), m), api.OK
}

// returns tells each call's answer, by its task, of those that return.
func returns(l []api.Event) [api.MaxTasks][]api.Answer {
	var out [api.MaxTasks][]api.Answer
	for _, e := range l {
		if e.What == api.Return {
			out[e.Task] = append(out[e.Task], e.Answer)
		}
	}
	return out
}

// fits tries Marks one behind the other. A Mark may as well stand as late as some Return asks for one: so it is tried there alone.
func fits(programs [][]api.Call, l []api.Event, told [api.MaxTasks][]api.Answer, m *model.Model) bool {
	lost := map[string]struct{}{} // where it was tried in vain: other rows of the same Marks come to the same
	var try func(p place, m *model.Model) bool
	mark := func(p place, task int, m *model.Model) bool {
		m = m.Copy()
		a := m.Do(task, programs[task][p.calls[task]])
		if n := p.calls[task]; n < len(told[task]) && !model.Same(a, told[task][n]) {
			return false
		}
		p.phases[task] = marked
		return try(p, m)
	}
	try = func(p place, m *model.Model) bool {
		for p.at < len(l) && p.pass(l[p.at]) {
		}
		if p.at == len(l) {
			return true
		}
		known := p.sign(m)
		if _, is := lost[known]; is {
			return false
		}
		for task, phase := range p.phases {
			if phase == under && mark(p, task, m) {
				return true
			}
		}
		lost[known] = struct{}{}
		return false
	}
	return try(place{}, m)
}

// pass passes an event; no: it is a Return, and its call has no Mark.
func (p *place) pass(e api.Event) bool {
	switch {
	case e.What == api.Invoke:
		p.phases[e.Task] = under
	case p.phases[e.Task] == marked:
		p.phases[e.Task] = rests
		p.calls[e.Task]++
	default:
		return false
	}
	p.at++
	return true
}

// sign tells a place, and all of a model by which calls are answered, as a text. Writers are named by their tasks' numbers, as those of all hang on the row of the Begins.
func (p *place) sign(m *model.Model) string {
	l := []string{strconv.Itoa(p.at), strconv.Itoa(m.Clock())}
	names := map[int]int{}
	for task, phase := range p.phases {
		l = append(l, strconv.Itoa(phase))
		for n := 1; ; n++ {
			w, state, snapshot := m.Tx(task, n)
			if w == 0 {
				break
			}
			names[w] = n*api.MaxTasks + task
			l = append(l, strconv.Itoa(int(state)), strconv.Itoa(snapshot))
		}
		l = append(l, "|")
	}
	for _, key := range m.Keys() {
		l = append(l, strconv.Quote(key))
		intent, _ := m.Intent(key)
		for _, v := range append(m.Versions(key), intent) {
			l = append(l, strconv.Itoa(names[v.Writer]), strconv.Itoa(v.TS), strconv.FormatBool(v.Tomb), strconv.Quote(v.Value))
		}
	}
	return strings.Join(l, " ")
}
