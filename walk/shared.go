package walk

import (
	"slices"

	"panicroad/api"
)

// shared tells of each NLit the variables that it, or a function within it, uses and that are not its own.
func shared(tree []api.Node, info api.Info) [][]int {
	lists, around := make([][]int, len(tree)), functionsAround(tree)
	for at, n := range tree {
		number := info.Refs[at]
		if n.Kind != api.NName || number >= api.RefFunc {
			continue
		}
		// From the function of the name outwards to that of the variable: all between must have it to hand it on.
		for f := around[at]; f != info.Owner[number] && !slices.Contains(lists[f], number); f = around[f] {
			lists[f] = append(lists[f], number)
		}
	}
	return lists
}

// functionsAround tells of each node the function that it stands in (of a function the one further out). It goes from the whole to its parts: parents stand behind their kids.
func functionsAround(tree []api.Node) []int {
	around := make([]int, len(tree))
	for at, n := range slices.Backward(tree) {
		inside := around[at]
		if n.Kind == api.NFunc || n.Kind == api.NLit {
			inside = at
		}
		for _, kid := range n.Kids {
			around[kid] = inside
		}
	}
	return around
}
