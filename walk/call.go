package walk

import (
	"panicroad/api"
	"panicroad/value"
)

func (w *walker) callOf(n api.Node) (item, ended) {
	called, args := n.Kids[0], n.Kids[1:]
	if w.info.Refs[called] >= api.RefBuilt {
		return w.builtCall(w.tree[called].Text, args)
	}
	parts, how := w.values(n.Kids)
	if how != goesOn {
		return item{}, how
	}
	if how := w.notNil(parts[0]); how != goesOn {
		return item{}, how
	}
	return w.call(parts[0].fn, parts[1:])
}

func (w *walker) builtCall(name string, nodes []int) (item, ended) {
	args, how := w.values(nodes)
	if how != goesOn {
		return item{}, how
	}
	switch name {
	case "len":
		return plain(intValue(length(args[0].Value))), goesOn
	case "append":
		return w.checked(appended(args[0].Value, args[1].N))
	case "println":
		return item{}, w.print(args)
	case "panic":
		return item{}, w.panicCall(args[0].Value)
	case "recover":
		return w.recoverLast(), goesOn
	case "exit":
		w.exit = args[0].N
		return item{}, w.stop(api.EndExit)
	case "toint":
		return w.checked(toInt(args[0].Value))
	}
	return plain(boolValue(args[0].Kind == api.VInt)), goesOn
}

// print writes a line, all of it or, where it is too much, nothing.
func (w *walker) print(args []item) ended {
	line := value.Line(plainValues(args))
	if len(w.Out)+len(line) > api.MaxOut {
		return w.stop(api.EndOutput)
	}
	w.Out += line
	return goesOn
}

func (w *walker) panicCall(v api.Value) ended {
	if !value.May(v) {
		return w.unless(api.Fault{Kind: api.FaultPanic})
	}
	return w.panicWith(v)
}

func plainValues(items []item) []api.Value {
	l := make([]api.Value, len(items))
	for i, v := range items {
		l[i] = v.Value
	}
	return l
}
