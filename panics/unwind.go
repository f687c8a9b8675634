package panics

import "panicroad/api"

// unwind goes down from the last activation, through all that leave or that a panic goes through, to one that runs or to the end.
func (w *work) unwind() {
	for w.End == api.EndNone && w.running().Phase != api.PhaseRuns {
		if len(w.running().Defers) > 0 {
			w.startKept()
		} else {
			w.drop()
		}
	}
}

// startKept begins an activation for what was kept last. It is taken away behind that, since it stays kept where none is begun.
func (w *work) startKept() {
	keeper := len(w.Frames) - 1
	id, ok := w.begin(w.startedBy())
	if !ok {
		return
	}
	f := &w.Frames[keeper]
	last := len(f.Defers) - 1
	w.tell(api.Tell{Kind: api.TellStart, N: f.Defers[last], To: id})
	f.Defers = f.Defers[:last]
}

// startedBy is the mark, and the panic's number, of what the last activation starts.
func (w *work) startedBy() (int, int) {
	if w.running().Phase == api.PhaseLeaves {
		return api.MarkReturn, noPanic
	}
	return api.MarkPanic, w.lastPanic().Serial
}

// drop takes away the last activation, which keeps nothing any more.
func (w *work) drop() {
	gone := *w.running()
	w.Frames = w.Frames[:len(w.Frames)-1]
	if gone.Phase == api.PhaseLeaves {
		w.left(gone)
	} else {
		w.passed(gone)
	}
}

// left says how the activation below one that left goes on; but for a panic that ends there, that is as it was.
func (w *work) left(gone api.Frame) {
	w.tell(api.Tell{Kind: api.TellLeft, N: gone.Id})
	if len(w.Frames) == 0 {
		w.finish(api.EndDone, 0)
		return
	}
	if gone.Mark == api.MarkPanic && w.lastPanic().Recovered {
		w.endPanic()
		w.running().Phase = api.PhaseLeaves
	}
}

// passed hands a panic that went through an activation on to the one below.
func (w *work) passed(gone api.Frame) {
	w.tell(api.Tell{Kind: api.TellPassed, N: gone.Id})
	if len(w.Frames) == 0 {
		w.finish(api.EndCrash, crashStatus)
		return
	}
	if gone.Mark == api.MarkPanic {
		w.abort(gone.Panic)
	}
	w.running().Phase = api.PhasePanics
}

func (w *work) abort(serial int) {
	for i := range w.Panics {
		if w.Panics[i].Serial == serial {
			w.Panics[i].Aborted = true
		}
	}
}

// endPanic takes away the last panic, and those that it broke off right ahead of it.
func (w *work) endPanic() {
	rest := w.Panics[:len(w.Panics)-1]
	for len(rest) > 0 && rest[len(rest)-1].Aborted {
		rest = rest[:len(rest)-1]
	}
	w.Panics = rest
}
