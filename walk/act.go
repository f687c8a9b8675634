package walk

import (
	"maps"

	"panicroad/api"
)

// activation is a function at work, with all variables that it can come to.
type activation struct {
	closure
	number int
	cause  *api.Panic // the panic that began it; nil: none did
	kept   []keptCall
}

// keptCall is a deferred call that was not started yet.
type keptCall struct {
	site int
	fn   *closure
	args []item
}

// declare makes a new variable, also where there is one of that number: of an earlier round of a loop.
func (a *activation) declare(number int, v item) { a.vars[number] = &variable{v} }

// call does a call, with all that its activation keeps, and is what it gives.
func (w *walker) call(fn *closure, args []item) (item, ended) {
	a, how := w.begin(fn, args, nil)
	if how != goesOn {
		return item{}, how
	}
	if how := w.goThrough(a); how != leaves {
		return item{}, how
	}
	return w.result(a), goesOn
}

// begin is a new activation, if the run doesn't end there.
func (w *walker) begin(fn *closure, args []item, cause *api.Panic) (*activation, ended) {
	if how := w.step(); how != goesOn {
		return nil, how
	}
	if w.depth == api.MaxDepth {
		return nil, w.stop(api.EndDepth)
	}
	vars := map[int]*variable{}
	maps.Copy(vars, fn.vars)
	a := &activation{closure: closure{node: fn.node, vars: vars}, number: w.next, cause: cause}
	w.next++
	head := w.tree[fn.node]
	for i, arg := range args {
		a.declare(w.info.Refs[head.Kids[i]], arg)
	}
	if number := w.resultNumber(fn.node); number != api.RefNone {
		a.declare(number, zero(w.info.VarTypes[number]))
	}
	return a, goesOn
}

// resultNumber is the variable that a function's result stands in, or RefNone.
func (w *walker) resultNumber(function int) int {
	head := w.tree[function]
	return w.info.Refs[head.Kids[head.Num]]
}

// result is what the activation's result holds; nothing, if it has none.
func (w *walker) result(a *activation) item {
	if number := w.resultNumber(a.node); number != api.RefNone {
		return a.vars[number].item
	}
	return item{}
}

// goThrough runs an activation, and all that it keeps, to its end: it leaves, unwinds or stops.
func (w *walker) goThrough(a *activation) ended {
	outer := w.running
	w.running = a
	w.depth++
	kids := w.tree[a.node].Kids
	how := w.block(kids[len(kids)-1])
	if how == goesOn {
		how = leaves
	}
	for how != stops && len(a.kept) > 0 {
		how = w.startLast(a, how)
	}
	w.depth--
	w.running = outer
	return how
}

// startLast starts what an activation that leaves or unwinds kept last, and is how it goes on behind that.
func (w *walker) startLast(keeper *activation, how ended) ended {
	last := len(keeper.kept) - 1
	k := keeper.kept[last]
	keeper.kept = keeper.kept[:last]
	mark, cause := api.MarkReturn, (*api.Panic)(nil)
	if how == unwinds {
		mark, cause = api.MarkPanic, w.flying[len(w.flying)-1]
	}
	a, began := w.begin(k.fn, k.args, cause)
	if began != goesOn {
		return began
	}
	w.Starts = append(w.Starts, api.Start{Frame: keeper.number, Site: k.site, Mark: mark})
	switch w.goThrough(a) {
	case stops:
		return stops
	case unwinds:
		if cause != nil {
			cause.Aborted = true
		}
		return unwinds
	}
	if cause != nil && cause.Recovered {
		w.land()
		return leaves
	}
	return how
}

// panicWith begins a panic.
func (w *walker) panicWith(v api.Value) ended {
	w.flying = append(w.flying, &api.Panic{Value: v})
	return unwinds
}

// land takes away the last panic, which is recovered, and those that it broke off right ahead of it.
func (w *walker) land() {
	last := len(w.flying) - 1
	for last > 0 && w.flying[last-1].Aborted {
		last--
	}
	w.flying = w.flying[:last]
}

// recoverLast gives the last panic to the deferred call that it began itself, and to no other activation.
func (w *walker) recoverLast() item {
	cause := w.running.cause
	if cause == nil || cause != w.flying[len(w.flying)-1] || cause.Recovered {
		return nothing()
	}
	cause.Recovered = true
	return plain(cause.Value)
}

func (w *walker) inFlight() []api.Panic {
	var l []api.Panic
	for _, p := range w.flying {
		l = append(l, *p)
	}
	return l
}
