package check

import (
	"slices"

	"panicroad/api"
	"panicroad/types"
)

// Built-ins, by number.
const (
	builtLen = iota
	builtAppend
	builtPrintln
	builtPanic
	builtRecover
	builtExit
	builtToInt
	builtIsInt
)

var builtNames = [...]string{"len", "append", "println", "panic", "recover", "exit", "toint", "isint"}

// builtNumber is the number of a built-in.
func builtNumber(name string) (int, bool) {
	for number, built := range builtNames {
		if built == name {
			return number, true
		}
	}
	return 0, false
}

func isBuiltIn(name string) bool {
	_, ok := builtNumber(name)
	return ok
}

// signature is what a built-in takes, each argument of one of some types, and what it gives. (println takes anything.)
func signature(built int) (takes [][]string, gives string) {
	switch built {
	case builtLen:
		return [][]string{{"[]int", "string"}}, "int"
	case builtAppend:
		return [][]string{{"[]int"}, {"int"}}, "[]int"
	case builtPanic:
		return [][]string{{"int", "string", "any"}}, ""
	case builtRecover:
		return nil, "any"
	case builtExit:
		return [][]string{{"int"}}, ""
	case builtToInt:
		return [][]string{{"any"}}, "int"
	case builtIsInt:
		return [][]string{{"any"}}, "bool"
	}
	return nil, ""
}

func (c *checker) call(at int) string {
	called, args := c.tree[at].Kids[0], c.tree[at].Kids[1:]
	if built, ok := c.calledBuiltIn(at); ok {
		c.info.Refs[called] = api.RefBuilt + built
		return c.builtCall(at, built, c.values(args))
	}
	t := c.value(called)
	return c.plainCall(at, t, c.values(args))
}

// calledBuiltIn is the built-in that a call is of. That no variable has the name need not be asked: none can be declared.
func (c *checker) calledBuiltIn(call int) (int, bool) {
	called := c.tree[c.tree[call].Kids[0]]
	if called.Kind != api.NName {
		return 0, false
	}
	return builtNumber(called.Text)
}

// plainCall is the type of a call of a value of the type t.
func (c *checker) plainCall(at int, t string, args []string) string {
	params, wrong := types.Params(t)
	must(wrong == api.OK, api.ErrType, at)
	must(len(args) == len(params), api.ErrArgs, at)
	for i, arg := range args {
		must(types.Fits(arg, params[i]), api.ErrType, at)
	}
	result, _ := types.Result(t)
	return result
}

func (c *checker) builtCall(at, built int, args []string) string {
	if built == builtPrintln {
		must(!slices.Contains(args, ""), api.ErrType, at)
		return ""
	}
	takes, gives := signature(built)
	must(len(args) == len(takes), api.ErrArgs, at)
	for i, arg := range args {
		must(slices.Contains(takes[i], arg), api.ErrType, at)
	}
	return gives
}
