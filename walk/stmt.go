package walk

import (
	"slices"

	"panicroad/api"
	"panicroad/fault"
)

func (w *walker) block(at int) ended {
	for _, kid := range w.tree[at].Kids {
		if how := w.statement(kid); how != goesOn {
			return how
		}
	}
	return goesOn
}

func (w *walker) statement(at int) ended {
	n := w.tree[at]
	if n.Kind == api.NBlock {
		return w.block(at)
	}
	if how := w.step(); how != goesOn {
		return how
	}
	switch n.Kind {
	case api.NVar:
		w.running.declare(w.info.Refs[at], zero(n.Type))
	case api.NDefine:
		return w.define(at)
	case api.NAssign:
		return w.assign(at)
	case api.NCallStmt:
		_, how := w.value(n.Kids[0])
		return how
	case api.NIf:
		return w.ifStatement(n)
	case api.NFor:
		return w.forStatement(n)
	case api.NBreak:
		return breaks
	case api.NContinue:
		return continues
	case api.NReturn:
		return w.returnStatement(n)
	case api.NDefer:
		return w.deferStatement(at)
	}
	return goesOn
}

func (w *walker) define(at int) ended {
	v, how := w.value(w.tree[at].Kids[0])
	if how == goesOn {
		w.running.declare(w.info.Refs[at], v)
	}
	return how
}

func (w *walker) assign(at int) ended {
	place, from := w.tree[at].Kids[0], w.tree[at].Kids[1]
	if w.tree[place].Kind == api.NName {
		return w.assignName(place, from)
	}
	// What the place is made of is gone through ahead of the value, but nothing is looked at until all are there.
	parts, how := w.values(append(slices.Clone(w.tree[place].Kids), from))
	if how != goesOn {
		return how
	}
	if w.tree[place].Kind == api.NIndex {
		return w.put(parts[0].Value, parts[1].N, parts[2].N)
	}
	if how := w.notNil(parts[0]); how != goesOn {
		return how
	}
	parts[0].to.item = parts[1]
	return goesOn
}

func (w *walker) assignName(name, from int) ended {
	v, how := w.value(from)
	if how == goesOn {
		w.running.vars[w.info.Refs[name]].item = v
	}
	return how
}

// put makes n the element i of a list, for all that refer to the list.
func (w *walker) put(list api.Value, i, n int) ended {
	how := w.unless(fault.Index(i, length(list)))
	if how == goesOn {
		list.L[i] = n
	}
	return how
}

func (w *walker) ifStatement(n api.Node) ended {
	condition, how := w.value(n.Kids[0])
	switch {
	case how != goesOn:
		return how
	case condition.N != 0:
		return w.block(n.Kids[1])
	case len(n.Kids) > 2:
		return w.statement(n.Kids[2])
	}
	return goesOn
}

func (w *walker) forStatement(n api.Node) ended {
	for {
		how := w.round(n.Kids)
		switch how {
		case goesOn, continues:
		case breaks:
			return goesOn
		default:
			return how
		}
	}
}

// round is one of a loop; where the condition doesn't hold it breaks.
func (w *walker) round(kids []int) ended {
	if how := w.step(); how != goesOn {
		return how
	}
	block := len(kids) - 1
	if block > 0 {
		condition, how := w.value(kids[0])
		if how != goesOn {
			return how
		}
		if condition.N == 0 {
			return breaks
		}
	}
	return w.block(kids[block])
}

func (w *walker) returnStatement(n api.Node) ended {
	if len(n.Kids) == 0 {
		return leaves
	}
	v, how := w.value(n.Kids[0])
	if how != goesOn {
		return how
	}
	w.running.vars[w.resultNumber(w.running.node)].item = v
	return leaves
}

func (w *walker) deferStatement(at int) ended {
	call := w.tree[at].Kids[0]
	parts, how := w.values(w.tree[call].Kids)
	if how != goesOn {
		return how
	}
	if how := w.notNil(parts[0]); how != goesOn {
		return how
	}
	w.running.kept = append(w.running.kept, keptCall{site: at, fn: parts[0].fn, args: parts[1:]})
	return goesOn
}
