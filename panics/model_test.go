package panics

import (
	"slices"

	"panicroad/api"
)

// act is an activation of the model: it hangs on the one below it.
type act struct {
	id, mark, phase int
	cause           *flight
	kept            []int
	below           *act
}

// flight is a panic of the model: it hangs on the one that began ahead of it.
type flight struct {
	serial             int
	v                  api.Value
	recovered, aborted bool
	ahead              *flight
}

// model is what goes on, told by what hangs on what, without numbers to seek by.
type model struct {
	top                       *act
	last                      *flight
	next, serial, end, status int
	told                      []api.Tell
}

func newModel() *model { return &model{top: &act{}, next: 1} }

func (m *model) tell(kind, n, to int, v api.Value) {
	m.told = append(m.told, api.Tell{Kind: kind, N: n, To: to, V: v})
}

func (m *model) over(end, status int) {
	m.end, m.status = end, status
	m.tell(7, end, 0, api.Value{})
}

func (m *model) depth() int {
	n := 0
	for a := m.top; a != nil; a = a.below {
		n++
	}
	return n
}

// do is the event, of those that are not refused.
func (m *model) do(e api.Event) {
	switch e.Kind {
	case 1:
		if m.depth() == 30 {
			m.over(6, 0)
			return
		}
		m.top = &act{id: m.next, below: m.top}
		m.tell(1, m.next, 0, api.Value{})
		m.next++
	case 2:
		m.top.phase = 1
		m.settle()
	case 3:
		m.top.kept = append(m.top.kept, e.N)
	case 4:
		v := api.Value{Kind: e.V.Kind, S: e.V.S}
		if v.Kind == 1 {
			v = api.Value{Kind: 1, N: e.V.N}
		}
		m.last = &flight{serial: m.serial, v: v, ahead: m.last}
		m.serial++
		m.top.phase = 2
		m.settle()
	case 5:
		if m.top.mark == 2 && m.top.cause == m.last && !m.last.recovered {
			m.last.recovered = true
			m.tell(5, 0, 0, m.last.v)
		} else {
			m.tell(6, 0, 0, api.Value{})
		}
	case 6:
		m.over(3, int(uint8(e.N)))
	}
}

// settle is P9.4, number by number, once for each activation.
func (m *model) settle() {
	a := m.top
	if n := len(a.kept); n > 0 { // 1.
		if m.depth() == 30 {
			m.over(6, 0)
			return
		}
		started := &act{id: m.next, mark: a.phase, below: a}
		if a.phase == 2 {
			started.cause = m.last
		}
		m.tell(2, a.kept[n-1], m.next, api.Value{})
		m.next++
		a.kept = a.kept[:n-1]
		m.top = started
		return
	}
	m.top = a.below // 2.
	m.tell(2+a.phase, a.id, 0, api.Value{})
	if m.top == nil {
		m.over(a.phase, (a.phase-1)*2)
		return
	}
	if a.phase == 2 { // 3.
		if a.mark == 2 {
			a.cause.aborted = true
		}
		m.top.phase = 2
		m.settle()
		return
	}
	switch a.mark { // 4.
	case 0:
		return
	case 2:
		if m.last.recovered {
			for m.last = m.last.ahead; m.last != nil && m.last.aborted; m.last = m.last.ahead {
			}
			m.top.phase = 1
		}
	}
	m.settle()
}

// state is the model's state, told plainly.
func (m *model) state() api.State {
	s := api.State{Next: m.next, Serial: m.serial, End: m.end, Status: m.status}
	for a := m.top; a != nil; a = a.below {
		f := api.Frame{Id: a.id, Mark: a.mark, Panic: -1, Phase: a.phase, Defers: slices.Clone(a.kept)}
		if a.cause != nil {
			f.Panic = a.cause.serial
		}
		s.Frames = append(s.Frames, f)
	}
	for p := m.last; p != nil; p = p.ahead {
		s.Panics = append(s.Panics, api.Panic{Serial: p.serial, Value: p.v, Recovered: p.recovered, Aborted: p.aborted})
	}
	slices.Reverse(s.Frames)
	slices.Reverse(s.Panics)
	return s
}
