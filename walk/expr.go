package walk

import (
	"panicroad/api"
	"panicroad/fault"
)

// value is what an expression gives, if nothing ends it.
func (w *walker) value(at int) (item, ended) {
	n := w.tree[at]
	switch n.Kind {
	case api.NInt:
		return plain(intValue(n.Num)), goesOn
	case api.NText:
		return plain(textValue(n.Text)), goesOn
	case api.NBool:
		return plain(boolValue(n.Num != 0)), goesOn
	case api.NNil:
		return nothing(), goesOn
	case api.NName:
		return w.name(at), goesOn
	case api.NLit:
		return w.literal(at), goesOn
	case api.NNone:
		return item{}, goesOn
	case api.NCall:
		return w.callOf(n)
	case api.NUnary:
		if n.Text == "&" {
			return w.pointer(n.Kids[0]), goesOn
		}
	case api.NBinary:
		if n.Text == "&&" || n.Text == "||" {
			return w.either(n)
		}
	}
	parts, how := w.values(n.Kids)
	if how != goesOn {
		return item{}, how
	}
	return w.made(n, parts)
}

// values goes through expressions from the left to the right, up to one that something ends.
func (w *walker) values(nodes []int) ([]item, ended) {
	l := make([]item, len(nodes))
	for i, at := range nodes {
		v, how := w.value(at)
		if how != goesOn {
			return nil, how
		}
		l[i] = v
	}
	return l, goesOn
}

// made is what an expression gives, of what its parts gave.
func (w *walker) made(n api.Node, parts []item) (item, ended) {
	switch n.Kind {
	case api.NUnary:
		return w.unary(n.Text, parts[0])
	case api.NBinary:
		return w.checked(between(n.Text, parts[0].Value, parts[1].Value))
	case api.NIndex:
		return w.checked(element(parts[0].Value, parts[1].N))
	case api.NSlice:
		return w.checked(piece(parts[0].Value, parts[1].Value, parts[2].Value))
	}
	return w.checked(listOf(parts))
}

func (w *walker) unary(sign string, v item) (item, ended) {
	switch sign {
	case "-":
		return plain(intValue(-v.N)), goesOn
	case "!":
		return plain(boolValue(v.N == 0)), goesOn
	}
	if how := w.notNil(v); how != goesOn {
		return item{}, how
	}
	return v.to.item, goesOn
}

// either is && or ||, whose right side is left out if the left one decides.
func (w *walker) either(n api.Node) (item, ended) {
	left, how := w.value(n.Kids[0])
	decided := (n.Text == "||") == (left.N != 0)
	if how != goesOn || decided {
		return left, how
	}
	return w.value(n.Kids[1])
}

// name is what a variable holds, or a function.
func (w *walker) name(at int) item {
	number := w.info.Refs[at]
	if number < api.RefFunc {
		return w.running.vars[number].item
	}
	file := w.tree[len(w.tree)-1]
	return function(&closure{node: file.Kids[number-api.RefFunc]})
}

// pointer leads to the variable of a name.
func (w *walker) pointer(name int) item {
	return item{Value: api.Value{Kind: api.VPtr}, to: w.running.vars[w.info.Refs[name]]}
}

// literal is a function without a name, made where it stands.
func (w *walker) literal(at int) item {
	vars := map[int]*variable{}
	for _, number := range w.shared[at] {
		vars[number] = w.running.vars[number]
	}
	return function(&closure{node: at, vars: vars})
}

// unless goes on, but if there is a fault a panic begins with it.
func (w *walker) unless(f api.Fault) ended {
	if f == (api.Fault{}) {
		return goesOn
	}
	return w.panicWith(api.Value{Kind: api.VErr, S: fault.Text(f)})
}

// notNil goes on with what leads to something.
func (w *walker) notNil(v item) ended {
	if v.Kind != api.VNil {
		return goesOn
	}
	return w.unless(api.Fault{Kind: api.FaultNil})
}

// checked is a value, unless there is a fault beside it.
func (w *walker) checked(v api.Value, f api.Fault) (item, ended) {
	if how := w.unless(f); how != goesOn {
		return item{}, how
	}
	return plain(v), goesOn
}
