package walk

import (
	"fmt"
	"slices"
	"strings"

	"panicroad/api"
	"panicroad/panics"
)

// reading is a second way to what the chapter asks for: functions are laid flat as instructions over a stack (flat_test.go), names are sought in the scopes that stand while it runs, and what becomes of activations and panics is chapter 9's Step's to say.
type reading struct {
	outcome   api.Outcome
	functions map[string]*routine
	state     api.State
	frames    []*frame
	keeps     []keep
	about     begun // what is to be called
	fuel      int
}

// routine is a function laid flat.
type routine struct {
	params []string
	result api.Node
	body   []instruction
}

type instruction func(r *reading, f *frame)

// Values are Go's: int, bool, string, nil, a failure, *[]int, a *any for a pointer, and *made for a function.
type (
	failure string
	made    struct {
		*routine
		scope *scope
	}
)

// scope is a variable, with those that were declared ahead of it and are known still.
type scope struct {
	name  string
	holds *any
	outer *scope
}

func (s *scope) seek(name string) *any {
	for ; s != nil; s = s.outer {
		if s.name == name {
			return s.holds
		}
	}
	return nil
}

// frame is an activation: what Step's state doesn't tell of it.
type frame struct {
	*routine
	at     int
	stack  []any
	scope  *scope
	value  *any // the result's variable
	called bool
}

func (f *frame) declare(name string, v any) { f.scope = &scope{name, &v, f.scope} }

func (f *frame) push(v any) { f.stack = append(f.stack, v) }

func (f *frame) pop() any {
	last := len(f.stack) - 1
	v := f.stack[last]
	f.stack = f.stack[:last]
	return v
}

// popAll takes n values off, the first one first.
func (f *frame) popAll(n int) []any {
	first := len(f.stack) - n
	l := slices.Clone(f.stack[first:])
	f.stack = f.stack[:first]
	return l
}

type begun struct {
	fn   *made
	args []any
}

type keep struct {
	begun
	frame, site int
}

// expect is what must come of a tree that is right.
func expect(tree []api.Node, fuel int) api.Outcome {
	r := &reading{functions: flat(tree), state: panics.Begin(), fuel: fuel}
	if r.step() {
		r.enter(begun{fn: &made{routine: r.functions["main"]}}, false)
	}
	for r.outcome.End == 0 {
		f := r.frames[len(r.frames)-1]
		f.at++
		f.body[f.at-1](r, f)
	}
	switch r.outcome.End {
	case api.EndCrash:
		r.outcome.Status = 2
		r.outcome.Crash = crashText(r.state.Panics)
	case api.EndExit:
		r.outcome.Status = r.state.Status
	case api.EndFuel, api.EndDepth, api.EndOutput:
		r.outcome.Status = 3
	}
	return r.outcome
}

func crashText(l []api.Panic) string {
	var lines []string
	for _, p := range l {
		told := map[int]string{api.VInt: fmt.Sprint(p.Value.N), api.VText: fmt.Sprintf("%q", p.Value.S), api.VErr: p.Value.S}[p.Value.Kind]
		if p.Recovered {
			told += " [recovered]"
		}
		lines = append(lines, "panic: "+told+"\n")
	}
	return strings.Join(lines, "\t")
}

func (r *reading) step() bool {
	if r.outcome.Steps == r.fuel {
		r.outcome.End = api.EndFuel
		return false
	}
	r.outcome.Steps++
	return true
}

// enter begins to run what Step has begun.
func (r *reading) enter(b begun, called bool) {
	f := &frame{routine: b.fn.routine, scope: b.fn.scope, called: called}
	for i, name := range f.params {
		f.declare(name, b.args[i])
	}
	f.declare(f.result.Text, first(f.result.Type))
	f.value = f.scope.holds
	r.frames = append(r.frames, f)
}

// first is what a variable of a type holds at first.
func first(t string) any {
	return map[string]any{"int": 0, "bool": false, "string": ""}[t]
}

// event lets Step say what comes of an event, and does so.
func (r *reading) event(e api.Event) {
	state, told, code := panics.Step(r.state, e)
	if code != api.OK {
		panic(fmt.Sprintf("event %v: %d", e, code))
	}
	r.state = state
	for _, t := range told {
		if r.outcome.End == 0 {
			r.follow(t)
		}
	}
}

func (r *reading) follow(t api.Tell) {
	switch t.Kind {
	case api.TellBegun:
		if r.step() {
			r.enter(r.about, true)
		}
	case api.TellStart:
		k := r.keeps[t.N]
		if r.step() {
			mark := r.state.Frames[len(r.state.Frames)-1].Mark
			r.outcome.Starts = append(r.outcome.Starts, api.Start{Frame: k.frame, Site: k.site, Mark: mark})
			r.enter(k.begun, false)
		}
	case api.TellLeft, api.TellPassed:
		last := len(r.frames) - 1
		gone := r.frames[last]
		r.frames = r.frames[:last]
		if t.Kind == api.TellLeft && gone.called {
			r.frames[last-1].push(*gone.value)
		}
	case api.TellRecovered:
		r.frames[len(r.frames)-1].push(map[int]any{api.VInt: t.V.N, api.VText: t.V.S, api.VErr: failure(t.V.S)}[t.V.Kind])
	case api.TellNothing:
		r.frames[len(r.frames)-1].push(nil)
	case api.TellEnd:
		if t.N != api.EndDepth || r.step() {
			r.outcome.End = t.N
		}
	}
}

// raise begins a panic.
func (r *reading) raise(v any) {
	e := api.Event{Kind: api.EvPanic}
	switch v := v.(type) {
	case int:
		e.V = api.Value{Kind: api.VInt, N: v}
	case string:
		e.V = api.Value{Kind: api.VText, S: v}
	case failure:
		e.V = api.Value{Kind: api.VErr, S: string(v)}
	case nil:
		r.fail("panic called with nil")
		return
	}
	r.event(e)
}

func (r *reading) fail(form string, args ...any) {
	r.raise(failure("runtime error: " + fmt.Sprintf(form, args...)))
}

func (r *reading) failNil() { r.fail("invalid memory address or nil pointer dereference") }

// shown is how println tells a value.
func shown(v any) string {
	switch v := v.(type) {
	case nil:
		return "nil"
	case *[]int:
		return fmt.Sprint(*v)
	case *any:
		return "pointer"
	case *made:
		return "func"
	}
	return fmt.Sprint(v)
}
