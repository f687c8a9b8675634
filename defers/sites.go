package defers

import (
	"slices"

	"panicroad/api"
	"panicroad/parse"
)

// stand is where a node stands: in which function, and whether in a loop of that one.
type stand struct {
	function int
	loop     bool
}

// Sites are the deferred calls of a function's node, and whether bits keep them.
func Sites(tree []api.Node, node int) (api.Plan, api.Errno) {
	all, e := Plans(tree)
	if e != api.OK {
		return api.Plan{}, e
	}
	for _, p := range all {
		if p.Node == node {
			return p, api.OK
		}
	}
	return api.Plan{}, api.ErrKind
}

// Plans are those of all functions, in the order of their nodes.
func Plans(tree []api.Node) ([]api.Plan, api.Errno) {
	if !parse.Good(tree) {
		return nil, api.ErrForm
	}
	var all []api.Plan
	byNode := plansByNode(tree)
	for i, n := range tree {
		if isFunction(n) {
			all = append(all, byNode[i])
		}
	}
	return all, api.OK
}

func isFunction(n api.Node) bool { return n.Kind == api.NFunc || n.Kind == api.NLit }

// plansByNode lays each function's plan at the place of its node.
func plansByNode(tree []api.Node) []api.Plan {
	plans := make([]api.Plan, len(tree))
	for i := range plans {
		plans[i] = api.Plan{Node: i, Open: true}
	}
	stands := allStands(tree)
	for i, n := range tree {
		if n.Kind != api.NDefer {
			continue
		}
		p := &plans[stands[i].function]
		p.Sites = append(p.Sites, i)
		p.Open = p.Open && !stands[i].loop && len(p.Sites) <= api.MaxOpen
	}
	return plans
}

// allStands goes from the whole to its parts: parents stand behind their kids.
func allStands(tree []api.Node) []stand {
	stands := make([]stand, len(tree))
	for i, n := range slices.Backward(tree) {
		inside := stands[i]
		switch {
		case isFunction(n):
			inside = stand{function: i}
		case n.Kind == api.NFor:
			inside.loop = true
		}
		for _, kid := range n.Kids {
			stands[kid] = inside
		}
	}
	return stands
}
