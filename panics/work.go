package panics

import (
	"panicroad/api"
	"panicroad/value"
)

// crashStatus is the Status of a run that a panic ends.
const crashStatus = 2

// work is a state at work: the plain one, and what was told of it so far.
type work struct {
	api.State
	told []api.Tell
}

// copyState is a state that shares nothing with s, so that work may change it in place.
func copyState(s api.State) api.State {
	s.Frames = append([]api.Frame(nil), s.Frames...)
	for i := range s.Frames {
		f := &s.Frames[i]
		f.Defers = append([]int(nil), f.Defers...)
	}
	s.Panics = append([]api.Panic(nil), s.Panics...)
	for i := range s.Panics {
		p := &s.Panics[i]
		p.Value = value.Plain(p.Value)
	}
	return s
}

// take does what comes of an event; of one that is refused nothing is done.
func (w *work) take(e api.Event) api.Errno {
	if w.End != api.EndNone || len(w.Frames) == 0 {
		return api.ErrState
	}
	switch e.Kind {
	case api.EvCall:
		w.call()
	case api.EvReturn:
		w.running().Phase = api.PhaseLeaves
		w.unwind()
	case api.EvDefer:
		f := w.running()
		f.Defers = append(f.Defers, e.N)
	case api.EvPanic:
		if !value.May(e.V) {
			return api.ErrKind
		}
		w.panicWith(e.V)
	case api.EvRecover:
		w.recoverLast()
	case api.EvExit:
		w.finish(api.EndExit, e.N&255)
	default:
		return api.ErrKind
	}
	return api.OK
}

// running is the last activation. It moves where one is begun: who begins one asks again.
func (w *work) running() *api.Frame { return &w.Frames[len(w.Frames)-1] }

// lastPanic is the panic in flight that began last. Only a state that no Step answers lacks one where it is asked for: then one that stands nowhere is handed out, so that even this does no harm.
func (w *work) lastPanic() *api.Panic {
	if len(w.Panics) == 0 {
		return &api.Panic{Serial: noPanic}
	}
	return &w.Panics[len(w.Panics)-1]
}

func (w *work) tell(t api.Tell) { w.told = append(w.told, t) }

func (w *work) finish(end, status int) {
	w.End, w.Status = end, status
	w.tell(api.Tell{Kind: api.TellEnd, N: end})
}

func (w *work) call() {
	if id, ok := w.begin(api.MarkCall, noPanic); ok {
		w.tell(api.Tell{Kind: api.TellBegun, N: id})
	}
}

// begin is the number of a new activation; false: there are too many, and that was the end.
func (w *work) begin(mark, serial int) (int, bool) {
	if len(w.Frames) >= api.MaxDepth {
		w.finish(api.EndDepth, 0)
		return 0, false
	}
	id := w.Next
	w.Next++
	w.Frames = append(w.Frames, api.Frame{Id: id, Mark: mark, Panic: serial})
	return id, true
}

func (w *work) panicWith(v api.Value) {
	w.Panics = append(w.Panics, api.Panic{Serial: w.Serial, Value: value.Plain(v)})
	w.Serial++
	w.running().Phase = api.PhasePanics
	w.unwind()
}

// recoverLast gives the last panic to the deferred call that it began itself, and to no other activation.
func (w *work) recoverLast() {
	f, p := w.running(), w.lastPanic()
	if f.Mark != api.MarkPanic || f.Panic != p.Serial || p.Recovered {
		w.tell(api.Tell{Kind: api.TellNothing})
		return
	}
	p.Recovered = true
	w.tell(api.Tell{Kind: api.TellRecovered, V: value.Plain(p.Value)})
}
