package panics

import (
	"fmt"
	"strings"

	"panicroad/api"
)

// native lets Go itself call, defer, panic and recover as events say, and notes what comes of it.
type native struct {
	events          []api.Event
	notes           []string
	at, next, depth int
	stopped         bool
}

func (n *native) note(form string, args ...any) {
	n.notes = append(n.notes, fmt.Sprintf(form, args...))
}

func (n *native) stop(end int) {
	n.note("end:%d", end)
	n.stopped = true
}

// event is the next one; where there is none, all activations return and nothing more is noted.
func (n *native) event() api.Event {
	if n.at == len(n.events) {
		n.stopped = true
	}
	if n.stopped {
		return api.Event{Kind: api.EvReturn}
	}
	n.at++
	return n.events[n.at-1]
}

func (n *native) enter(form string, args ...any) bool {
	if n.stopped {
		return false
	}
	if n.depth == api.MaxDepth {
		n.stop(api.EndDepth)
		return false
	}
	n.depth++
	n.next++
	if form != "" {
		n.note(form, append(args, n.next-1)...)
	}
	return true
}

// gone is deferred first, so it runs when all that an activation kept has been run.
func (n *native) gone(id int) {
	n.depth--
	if !n.stopped {
		n.note("gone:%d", id)
	}
}

// act is an activation: called, or deferred as it stands, so that its own recover is that of a deferred call.
func (n *native) act(form string, args ...any) {
	if !n.enter(form, args...) {
		return
	}
	defer n.gone(n.next - 1)
	for {
		switch e := n.event(); e.Kind {
		case api.EvCall:
			n.act("begun:%d")
		case api.EvReturn:
			return
		case api.EvDefer:
			defer n.act("start:%d>%d", e.N)
		case api.EvPanic:
			panic(e.V.N)
		case api.EvRecover:
			if v := recover(); v != nil {
				n.note("recovered:%d", v)
			} else {
				n.note("nothing")
			}
		case api.EvExit:
			n.stop(api.EndExit)
		}
	}
}

// play is what Go makes of events, whose panics have numbers.
func play(l []api.Event) string {
	n := &native{events: l}
	func() {
		defer func() {
			if recover() != nil && !n.stopped {
				n.stop(api.EndCrash)
			}
		}()
		n.act("")
		if !n.stopped {
			n.stop(api.EndDone)
		}
	}()
	return strings.Join(n.notes, " ")
}

// noted is what was told, as native notes it: Go doesn't say whether what is gone left or was passed.
func noted(told []api.Tell) string {
	return strings.NewReplacer("left:", "gone:", "passed:", "gone:").Replace(toldText(told))
}
