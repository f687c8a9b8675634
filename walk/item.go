package walk

import (
	"panicroad/api"
	"panicroad/types"
)

// item is a value at work: the plain one and, of a pointer and of a function, what it leads to.
type item struct {
	api.Value
	to *variable
	fn *closure
}

// variable is shared by all that lead to it.
type variable struct{ item }

// closure is a function with the variables, by number, that it shares with those around it.
type closure struct {
	node int
	vars map[int]*variable
}

func plain(v api.Value) item { return item{Value: v} }

func function(fn *closure) item { return item{Value: api.Value{Kind: api.VFunc}, fn: fn} }

func nothing() item { return plain(api.Value{Kind: api.VNil}) }

// zero is what a variable of a type begins with.
func zero(t string) item {
	v, _ := types.Zero(t)
	return plain(v)
}
