package parse

import (
	"math/rand"
	"strconv"
	"strings"

	"panicroad/api"
	"panicroad/scan"
)

// maker makes well-made shapes by chance.
type maker struct{ *rand.Rand }

func pick[T any](m maker, l ...T) T { return l[m.Intn(len(l))] }

func (m maker) name() string {
	return pick(m, "a", "b", "x", "f", "_", "main", "len", "a1_Z9", "abcdefghijklm_09")
}

func (m maker) oneType() string {
	return pick(m, "int", "bool", "string", "any", "[]int", "*int", "func()", "func(int,any)*int", "func(func(int,int)bool)func()[]int")
}

func (m maker) file() *shape {
	s := made(api.Node{Kind: api.NFile})
	for range m.Intn(4) {
		s.kids = append(s.kids, m.function(api.Node{Kind: api.NFunc, Text: m.name()}, 4))
	}
	return s
}

func (m maker) function(n api.Node, depth int) *shape {
	s := made(n)
	s.Num = m.Intn(5)
	for range s.Num {
		s.kids = append(s.kids, made(api.Node{Kind: api.NParam, Text: m.name(), Type: m.oneType()}))
	}
	result := api.Node{Kind: api.NResult}
	if m.Intn(2) == 0 {
		result.Type = m.oneType()
		result.Text = pick(m, "", m.name())
	}
	s.kids = append(s.kids, made(result), m.block(depth-1))
	return s
}

func (m maker) block(depth int) *shape {
	s := made(api.Node{Kind: api.NBlock})
	if depth > 0 {
		for range m.Intn(4) {
			s.kids = append(s.kids, m.statement(depth-1))
		}
	}
	return s
}

func (m maker) statement(depth int) *shape {
	n := api.Node{Kind: api.NVar + m.Intn(10)}
	switch n.Kind {
	case api.NVar:
		n.Text, n.Type = m.name(), m.oneType()
		return made(n)
	case api.NDefine:
		n.Text = m.name()
		return made(n, m.expr(depth))
	case api.NAssign:
		return made(n, m.place(depth), m.expr(depth))
	case api.NCallStmt, api.NDefer:
		return made(n, m.call(depth))
	case api.NIf:
		s := made(n, m.expr(depth), m.block(depth))
		switch m.Intn(3) {
		case 0:
			s.kids = append(s.kids, m.block(depth))
		case 1:
			s.kids = append(s.kids, made(n, m.expr(depth), m.block(depth)))
		}
		return s
	case api.NFor:
		return pick(m, made(n, m.block(depth)), made(n, m.expr(depth), m.block(depth)))
	case api.NReturn:
		return pick(m, made(n), made(n, m.expr(depth)))
	}
	return pick(m, made(n), m.block(depth))
}

func (m maker) place(depth int) *shape {
	return pick(m, made(api.Node{Kind: api.NName, Text: m.name()}),
		made(api.Node{Kind: api.NIndex}, m.expr(depth-1), m.expr(depth-1)),
		made(api.Node{Kind: api.NUnary, Text: "*"}, m.expr(depth-1)))
}

func (m maker) call(depth int) *shape {
	return made(api.Node{Kind: api.NCall}, append([]*shape{m.expr(depth - 1)}, m.exprs(depth)...)...)
}

func (m maker) exprs(depth int) []*shape {
	var l []*shape
	for range m.Intn(3) {
		l = append(l, m.expr(depth-1))
	}
	return l
}

func (m maker) single() *shape {
	return made(pick(m, api.Node{Kind: api.NInt, Num: pick(m, 0, 1, 20, 1<<63-1)}, api.Node{Kind: api.NText, Text: pick(m, "", "a", "(\"\\\n\t", "//;{")},
		api.Node{Kind: api.NBool, Num: m.Intn(2)}, api.Node{Kind: api.NNil}, api.Node{Kind: api.NName, Text: m.name()}))
}

func (m maker) bound(depth int) *shape {
	return pick(m, made(api.Node{Kind: api.NNone}), m.expr(depth))
}

func (m maker) expr(depth int) *shape {
	if depth <= 0 {
		return m.single()
	}
	depth--
	switch m.Intn(9) {
	case 0:
		return made(api.Node{Kind: api.NUnary, Text: pick(m, "-", "!", "*")}, m.expr(depth))
	case 1:
		return made(api.Node{Kind: api.NUnary, Text: "&"}, made(api.Node{Kind: api.NName, Text: m.name()}))
	case 2, 3:
		return made(api.Node{Kind: api.NBinary, Text: pick(m, signs()...)}, m.expr(depth), m.expr(depth))
	case 4:
		return m.call(depth)
	case 5:
		return made(api.Node{Kind: api.NIndex}, m.expr(depth), m.expr(depth))
	case 6:
		return made(api.Node{Kind: api.NSlice}, m.expr(depth), m.bound(depth), m.bound(depth))
	case 7:
		return made(api.Node{Kind: api.NList}, m.exprs(depth)...)
	}
	return pick(m, m.single(), m.function(api.Node{Kind: api.NLit}, depth))
}

// wide writes a source of a shape on one line, with brackets around all operands; right stays true if it could be written.
type wide struct {
	strings.Builder
	right bool
}

// source is a source of a shape, if it has one.
func source(s *shape) (string, bool) {
	w := &wide{right: s.Kind == api.NFile}
	for _, kid := range s.kids {
		w.kid(kid, api.NFunc)
		w.put("func", kid.Text)
		w.head(kid)
		w.put(";")
	}
	return w.String(), w.right
}

func (w *wide) put(pieces ...string) {
	for _, piece := range pieces {
		w.WriteString(piece + " ")
	}
}

// kid is whether a kid is of a kind; the source is lost if it is not.
func (w *wide) kid(s *shape, kind int) bool {
	w.right = w.right && s.Kind == kind
	return w.right
}

// count is whether a node has as many kids as one of these numbers.
func (w *wide) count(s *shape, counts ...int) bool {
	for _, n := range counts {
		if len(s.kids) == n {
			return true
		}
	}
	w.right = false
	return false
}

func (w *wide) head(s *shape) {
	if len(s.kids) < 2 {
		w.right = false
		return
	}
	params := s.kids[:len(s.kids)-2]
	result, block := s.kids[len(params)], s.kids[len(params)+1]
	w.put("(")
	for i, p := range params {
		if i > 0 {
			w.put(",")
		}
		w.kid(p, api.NParam)
		w.put(p.Text, p.Type)
	}
	w.put(")")
	w.kid(result, api.NResult)
	if result.Text != "" {
		w.put("(", result.Text, result.Type, ")")
	} else {
		w.put(result.Type)
	}
	w.block(block)
}

func (w *wide) block(s *shape) {
	if !w.kid(s, api.NBlock) {
		return
	}
	w.put("{")
	for _, kid := range s.kids {
		w.statement(kid)
		w.put(";")
	}
	w.put("}")
}

func (w *wide) statement(s *shape) {
	switch {
	case s.Kind == api.NBlock:
		w.block(s)
	case s.Kind == api.NVar:
		w.put("var", s.Text, s.Type)
	case s.Kind == api.NDefine && w.count(s, 1):
		w.put(s.Text, ":=")
		w.brackets(s.kids[0])
	case s.Kind == api.NAssign && w.count(s, 2):
		w.expr(s.kids[0])
		w.put("=")
		w.brackets(s.kids[1])
	case s.Kind == api.NCallStmt && w.count(s, 1):
		w.expr(s.kids[0])
	case s.Kind == api.NIf && w.count(s, 2, 3):
		w.put("if")
		w.brackets(s.kids[0])
		w.block(s.kids[1])
		if len(s.kids) == 3 {
			w.put("else")
			w.statement(s.kids[2])
		}
	case s.Kind == api.NFor && w.count(s, 1, 2):
		w.put("for")
		if len(s.kids) == 2 {
			w.brackets(s.kids[0])
		}
		w.block(s.kids[len(s.kids)-1])
	case s.Kind == api.NBreak:
		w.put("break")
	case s.Kind == api.NContinue:
		w.put("continue")
	case s.Kind == api.NReturn && w.count(s, 0, 1):
		w.put("return")
		if len(s.kids) == 1 {
			w.brackets(s.kids[0])
		}
	case s.Kind == api.NDefer && w.count(s, 1):
		w.put("defer")
		w.expr(s.kids[0])
	default:
		w.right = false
	}
}

func (w *wide) brackets(s *shape) {
	w.put("(")
	w.expr(s)
	w.put(")")
}

func (w *wide) list(l []*shape) {
	for i, s := range l {
		if i > 0 {
			w.put(",")
		}
		w.brackets(s)
	}
}

func (w *wide) bound(s *shape) {
	if s.Kind != api.NNone {
		w.brackets(s)
	}
}

func (w *wide) expr(s *shape) {
	switch {
	case s.Kind == api.NInt:
		w.put(strconv.Itoa(s.Num))
	case s.Kind == api.NText:
		quoted, e := scan.Quote(s.Text)
		w.right = w.right && e == api.OK
		w.put(quoted)
	case s.Kind == api.NBool:
		w.put(strconv.FormatBool(s.Num == 1))
	case s.Kind == api.NNil:
		w.put("nil")
	case s.Kind == api.NName:
		w.put(s.Text)
	case s.Kind == api.NUnary && w.count(s, 1) && s.Text == "&":
		w.put("&")
		w.expr(s.kids[0])
	case s.Kind == api.NUnary && w.count(s, 1):
		w.put(s.Text)
		w.brackets(s.kids[0])
	case s.Kind == api.NBinary && w.count(s, 2):
		w.brackets(s.kids[0])
		w.put(s.Text)
		w.brackets(s.kids[1])
	case s.Kind == api.NCall && len(s.kids) > 0:
		w.brackets(s.kids[0])
		w.put("(")
		w.list(s.kids[1:])
		w.put(")")
	case s.Kind == api.NIndex && w.count(s, 2):
		w.brackets(s.kids[0])
		w.put("[")
		w.brackets(s.kids[1])
		w.put("]")
	case s.Kind == api.NSlice && w.count(s, 3):
		w.brackets(s.kids[0])
		w.put("[")
		w.bound(s.kids[1])
		w.put(":")
		w.bound(s.kids[2])
		w.put("]")
	case s.Kind == api.NList:
		w.put("[]int{")
		w.list(s.kids)
		w.put("}")
	case s.Kind == api.NLit:
		w.put("func")
		w.head(s)
	default:
		w.right = false
	}
}

// grown is the shape of a tree; false: it is none, or not all of the list.
func grown(tree []api.Node) (*shape, bool) {
	left := len(tree)
	right := true
	var grow func(i, below int) *shape
	grow = func(i, below int) *shape {
		left--
		if i < 0 || i >= below || left < 0 {
			right = false
			return made(api.Node{})
		}
		s := made(tree[i])
		for _, kid := range tree[i].Kids {
			s.kids = append(s.kids, grow(kid, i))
		}
		return s
	}
	s := grow(len(tree)-1, len(tree))
	return s, right && left == 0
}

// expectGood is what Good must answer: whether there is a source that has the tree (for trees small enough to have a source at all).
func expectGood(tree []api.Node) bool {
	s, right := grown(tree)
	if !right {
		return false
	}
	src, right := source(s)
	if !right {
		return false
	}
	found, spot := Parse(src)
	return spot == (api.Spot{}) && sameTree(tree, found)
}
