package walk

import (
	"fmt"
	"slices"
	"strings"

	"panicroad/api"
)

// writer lays the body of one function flat.
type writer struct {
	tree  []api.Node
	body  []instruction
	depth int // variables of its blocks that are known
	loops []loop
}

// label is a place of a body that may be known later.
type label struct{ at int }

// loop is where break and continue go on, and how many variables are known there.
type loop struct {
	next, behind *label
	depth        int
}

// flat is all functions of a tree that have names.
func flat(tree []api.Node) map[string]*routine {
	all := map[string]*routine{}
	for _, at := range tree[len(tree)-1].Kids {
		all[tree[at].Text] = flatten(tree, at)
	}
	return all
}

func flatten(tree []api.Node, at int) *routine {
	kids := tree[at].Kids
	made := &routine{}
	for _, kid := range kids[:len(kids)-2] {
		made.params = append(made.params, tree[kid].Text)
	}
	made.result = tree[kids[len(kids)-2]]
	w := &writer{tree: tree}
	w.statement(kids[len(kids)-1])
	w.add(func(r *reading, f *frame) { r.event(api.Event{Kind: api.EvReturn}) })
	made.body = w.body
	return made
}

func (w *writer) add(i instruction) { w.body = append(w.body, i) }

// mark puts a label where the next instruction will stand.
func (w *writer) mark(l *label) *label {
	l.at = len(w.body)
	return l
}

func (w *writer) jump(l *label) { w.add(func(r *reading, f *frame) { f.at = l.at }) }

// jumpIf goes on at a label if the value on top is so; it is taken off.
func (w *writer) jumpIf(so bool, l *label) {
	w.add(func(r *reading, f *frame) {
		if f.pop() == so {
			f.at = l.at
		}
	})
}

func (w *writer) step() { w.add(func(r *reading, f *frame) { r.step() }) }

// declare makes the value on top a new variable.
func (w *writer) declare(name string) {
	w.add(func(r *reading, f *frame) { f.declare(name, f.pop()) })
	w.depth++
}

// outTo forgets variables until so many are known; what is written behind a jump still knows them.
func (w *writer) outTo(depth int) {
	for range w.depth - depth {
		w.add(func(r *reading, f *frame) { f.scope = f.scope.outer })
	}
}

func (w *writer) statement(at int) {
	n := w.tree[at]
	if n.Kind != api.NBlock {
		w.step()
	}
	switch n.Kind {
	case api.NBlock:
		outside := w.depth
		for _, kid := range n.Kids {
			w.statement(kid)
		}
		w.outTo(outside)
		w.depth = outside
	case api.NVar:
		w.add(func(r *reading, f *frame) { f.push(first(n.Type)) })
		w.declare(n.Text)
	case api.NDefine:
		w.expression(n.Kids[0])
		w.declare(n.Text)
	case api.NAssign:
		w.assign(w.tree[n.Kids[0]], n.Kids[1])
	case api.NCallStmt:
		w.expression(n.Kids[0])
		w.add(func(r *reading, f *frame) { f.pop() })
	case api.NReturn:
		for _, kid := range n.Kids {
			w.expression(kid)
			w.add(func(r *reading, f *frame) { *f.value = f.pop() })
		}
		w.add(func(r *reading, f *frame) { r.event(api.Event{Kind: api.EvReturn}) })
	case api.NDefer:
		w.deferred(at)
	default:
		w.branch(n)
	}
}

func (w *writer) branch(n api.Node) {
	switch n.Kind {
	case api.NIf:
		otherwise, behind := &label{}, &label{}
		w.expression(n.Kids[0])
		w.jumpIf(false, otherwise)
		w.statement(n.Kids[1])
		w.jump(behind)
		w.mark(otherwise)
		for _, kid := range n.Kids[2:] {
			w.statement(kid)
		}
		w.mark(behind)
	case api.NFor:
		l := loop{next: w.mark(&label{}), behind: &label{}, depth: w.depth}
		w.step()
		if len(n.Kids) == 2 {
			w.expression(n.Kids[0])
			w.jumpIf(false, l.behind)
		}
		w.loops = append(w.loops, l)
		w.statement(n.Kids[len(n.Kids)-1])
		w.loops = w.loops[:len(w.loops)-1]
		w.jump(l.next)
		w.mark(l.behind)
	case api.NBreak, api.NContinue:
		l := w.loops[len(w.loops)-1]
		w.outTo(l.depth)
		w.jump(map[int]*label{api.NBreak: l.behind, api.NContinue: l.next}[n.Kind])
	}
}

func (w *writer) assign(place api.Node, from int) {
	if place.Kind != api.NName {
		w.expressions(place.Kids)
	}
	w.expression(from)
	switch place.Kind {
	case api.NName:
		w.add(func(r *reading, f *frame) { *f.scope.seek(place.Text) = f.pop() })
	case api.NUnary:
		w.add(func(r *reading, f *frame) {
			l := f.popAll(2)
			if l[0] == nil {
				r.failNil()
				return
			}
			*l[0].(*any) = l[1]
		})
	case api.NIndex:
		w.add(func(r *reading, f *frame) {
			l := f.popAll(3)
			if r.inside(l[1].(int), size(l[0])) {
				(*l[0].(*[]int))[l[1].(int)] = l[2].(int)
			}
		})
	}
}

func (w *writer) deferred(at int) {
	parts := w.tree[w.tree[at].Kids[0]].Kids
	w.expressions(parts)
	w.add(func(r *reading, f *frame) {
		l := f.popAll(len(parts))
		if l[0] == nil {
			r.failNil()
			return
		}
		id := r.state.Frames[len(r.state.Frames)-1].Id
		r.keeps = append(r.keeps, keep{begun: begun{fn: l[0].(*made), args: l[1:]}, frame: id, site: at})
		r.event(api.Event{Kind: api.EvDefer, N: len(r.keeps) - 1})
	})
}

func (w *writer) expressions(nodes []int) {
	for _, at := range nodes {
		w.expression(at)
	}
}

// expression lays what leaves one value more on the stack.
func (w *writer) expression(at int) {
	n := w.tree[at]
	constant := func(v any) { w.add(func(r *reading, f *frame) { f.push(v) }) }
	switch n.Kind {
	case api.NInt:
		constant(n.Num)
	case api.NText:
		constant(n.Text)
	case api.NBool:
		constant(n.Num == 1)
	case api.NNil, api.NNone:
		constant(nil)
	case api.NName:
		w.add(func(r *reading, f *frame) {
			if v := f.scope.seek(n.Text); v != nil {
				f.push(*v)
			} else {
				f.push(&made{routine: r.functions[n.Text]})
			}
		})
	case api.NLit:
		inside := flatten(w.tree, at)
		w.add(func(r *reading, f *frame) { f.push(&made{inside, f.scope}) })
	case api.NUnary:
		w.unary(n)
	case api.NBinary:
		w.binary(n)
	case api.NCall:
		w.call(n)
	default:
		w.expressions(n.Kids)
		w.add(func(r *reading, f *frame) { r.build(n.Kind, f, f.popAll(len(n.Kids))) })
	}
}

func (w *writer) unary(n api.Node) {
	if n.Text == "&" {
		name := w.tree[n.Kids[0]].Text
		w.add(func(r *reading, f *frame) { f.push(f.scope.seek(name)) })
		return
	}
	w.expression(n.Kids[0])
	w.add(func(r *reading, f *frame) {
		switch v := f.pop().(type) {
		case int:
			f.push(0 - v)
		case bool:
			f.push(!v)
		case *any:
			f.push(*v)
		case nil:
			r.failNil()
		}
	})
}

func (w *writer) binary(n api.Node) {
	if n.Text == "&&" || n.Text == "||" {
		decided, behind := &label{}, &label{}
		w.expression(n.Kids[0])
		w.jumpIf(n.Text == "||", decided)
		w.expression(n.Kids[1])
		w.jump(behind)
		w.mark(decided)
		w.add(func(r *reading, f *frame) { f.push(n.Text == "||") })
		w.mark(behind)
		return
	}
	w.expressions(n.Kids)
	w.add(func(r *reading, f *frame) {
		l := f.popAll(2)
		left, isInt := l[0].(int)
		switch {
		case n.Text == "==":
			f.push(l[0] == l[1])
		case n.Text == "!=":
			f.push(l[0] != l[1])
		case isInt:
			r.operate(f, n.Text, left, l[1].(int))
		default:
			r.texts(f, n.Text, l[0].(string), l[1].(string))
		}
	})
}

func (r *reading) operate(f *frame, sign string, a, b int) {
	switch {
	case strings.Contains("/ %", sign) && b == 0:
		r.fail("integer divide by zero")
		return
	case strings.Contains("<< >>", sign) && len(sign) == 2 && b < 0:
		r.fail("negative shift amount")
		return
	}
	switch sign {
	case "+":
		f.push(a + b)
	case "-":
		f.push(a - b)
	case "*":
		f.push(a * b)
	case "/":
		f.push(a / b)
	case "%":
		f.push(a % b)
	case "<<":
		f.push(a << b)
	case ">>":
		f.push(a >> b)
	case "&":
		f.push(a & b)
	case "|":
		f.push(a | b)
	case "^":
		f.push(a ^ b)
	default:
		f.push(map[string]bool{"<": a < b, "<=": a <= b, ">": a > b, ">=": a >= b}[sign])
	}
}

func (r *reading) texts(f *frame, sign, a, b string) {
	if sign != "+" {
		f.push(map[string]bool{"<": a < b, "<=": a <= b, ">": a > b, ">=": a >= b}[sign])
	} else if r.short(len(a)+len(b), 200) {
		f.push(a + b)
	}
}

// inside is whether i is an index of n elements; if not, a panic has begun.
func (r *reading) inside(i, n int) bool {
	if i < 0 || i >= n {
		r.fail("index out of range [%d] with length %d", i, n)
		return false
	}
	return true
}

// short is whether n is not above most; if it is, a panic has begun.
func (r *reading) short(n, most int) bool {
	if n > most {
		r.fail("length %d is above %d", n, most)
		return false
	}
	return true
}

func size(v any) int {
	switch v := v.(type) {
	case string:
		return len(v)
	case *[]int:
		return len(*v)
	}
	return 0
}

// build is an index, a slice or a list of its parts.
func (r *reading) build(kind int, f *frame, l []any) {
	switch kind {
	case api.NIndex:
		if i := l[1].(int); r.inside(i, size(l[0])) {
			if s, ok := l[0].(string); ok {
				f.push(int(s[i]))
			} else {
				f.push((*l[0].(*[]int))[i])
			}
		}
	case api.NSlice:
		r.cut(f, l)
	case api.NList:
		all := []int{}
		for _, v := range l {
			all = append(all, v.(int))
		}
		if r.short(len(all), 100) {
			f.push(&all)
		}
	}
}

func (r *reading) cut(f *frame, l []any) {
	n := size(l[0])
	lo, hi := 0, n
	if v, ok := l[1].(int); ok {
		lo = v
	}
	if v, ok := l[2].(int); ok {
		hi = v
	}
	switch {
	case hi < 0 || hi > n:
		r.fail("slice bounds out of range [:%d] with length %d", hi, n)
	case lo > hi:
		r.fail("slice bounds out of range [%d:%d]", lo, hi)
	case lo < 0:
		r.fail("slice bounds out of range [%d:]", lo)
	default:
		switch v := l[0].(type) {
		case string:
			f.push(v[lo:hi])
		case *[]int:
			f.push(ref(slices.Clone((*v)[lo:hi])))
		case nil:
			f.push(ref([]int{}))
		}
	}
}

func ref(l []int) *[]int { return &l }

func (w *writer) call(n api.Node) {
	called, args := w.tree[n.Kids[0]], n.Kids[1:]
	if called.Kind == api.NName && strings.Contains(" len append println panic recover exit toint isint ", " "+called.Text+" ") {
		w.expressions(args)
		w.add(func(r *reading, f *frame) { r.builtIn(f, called.Text, f.popAll(len(args))) })
		return
	}
	w.expressions(n.Kids)
	w.add(func(r *reading, f *frame) {
		l := f.popAll(len(n.Kids))
		if l[0] == nil {
			r.failNil()
			return
		}
		r.about = begun{fn: l[0].(*made), args: l[1:]}
		r.event(api.Event{Kind: api.EvCall})
	})
}

func (r *reading) builtIn(f *frame, name string, l []any) {
	switch name {
	case "len":
		f.push(size(l[0]))
	case "append":
		all := []int{}
		if old, ok := l[0].(*[]int); ok {
			all = slices.Clone(*old)
		}
		if all = append(all, l[1].(int)); r.short(len(all), 100) {
			f.push(&all)
		}
	case "println":
		var pieces []string
		for _, v := range l {
			pieces = append(pieces, shown(v))
		}
		line := fmt.Sprintf("%s\n", strings.Join(pieces, " "))
		if len(r.outcome.Out)+len(line) > 2000 {
			r.outcome.End = api.EndOutput
			return
		}
		r.outcome.Out += line
		f.push(nil)
	case "panic":
		r.raise(l[0])
	case "recover":
		r.event(api.Event{Kind: api.EvRecover})
	case "exit":
		r.event(api.Event{Kind: api.EvExit, N: l[0].(int)})
	case "toint":
		if n, ok := l[0].(int); ok {
			f.push(n)
		} else {
			r.fail("no int in any")
		}
	case "isint":
		_, ok := l[0].(int)
		f.push(ok)
	}
}
