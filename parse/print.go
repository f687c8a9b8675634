package parse

import (
	"strings"

	"panicroad/api"
	"panicroad/scan"
	"panicroad/word"
)

// writer writes the source of a well-made tree; tabs is how many begin the line that it is on.
type writer struct {
	strings.Builder
	tree []api.Node
	tabs int
}

// Print is a source of a tree.
func Print(tree []api.Node) (text string, wrong api.Errno) {
	defer func() {
		if code, ok := recover().(api.Errno); ok {
			text, wrong = "", code
		}
	}()
	if !Good(tree) {
		panic(api.ErrForm)
	}
	w := writer{tree: tree}
	for _, kid := range tree[len(tree)-1].Kids {
		w.function(tree[kid])
		w.put("\n")
	}
	return w.String(), api.OK
}

// put gives up as soon as there is too much: Print recovers the error.
func (w *writer) put(pieces ...string) {
	for _, piece := range pieces {
		if w.Len()+len(piece) > api.MaxSource {
			panic(api.ErrLong)
		}
		w.WriteString(piece)
	}
}

func (w *writer) newLine() {
	w.put("\n", strings.Repeat("\t", w.tabs))
}

// kid is a node's kid, by its place among them.
func (w *writer) kid(n api.Node, place int) api.Node { return w.tree[n.Kids[place]] }

func (w *writer) function(n api.Node) {
	w.put("func ", n.Text)
	w.head(n)
}

func (w *writer) head(n api.Node) {
	w.put("(")
	for i := range n.Num {
		if i > 0 {
			w.put(", ")
		}
		w.named(w.kid(n, i))
	}
	w.put(")")
	w.result(w.kid(n, n.Num))
	w.put(" ")
	w.block(w.kid(n, n.Num+1))
}

func (w *writer) result(n api.Node) {
	switch {
	case n.Text != "":
		w.put(" (")
		w.named(n)
		w.put(")")
	case n.Type != "":
		w.put(" ", spaced(n.Type))
	}
}

func (w *writer) named(n api.Node) { w.put(n.Text, " ", spaced(n.Type)) }

// spaced is a type with a blank behind each comma.
func spaced(t string) string { return strings.ReplaceAll(t, ",", ", ") }

func (w *writer) block(n api.Node) {
	if len(n.Kids) == 0 {
		w.put("{}")
		return
	}
	w.put("{")
	w.tabs++
	for i := range n.Kids {
		w.newLine()
		w.statement(w.kid(n, i))
	}
	w.tabs--
	w.newLine()
	w.put("}")
}

func (w *writer) statement(n api.Node) {
	switch n.Kind {
	case api.NBlock:
		w.block(n)
	case api.NVar:
		w.put("var ")
		w.named(n)
	case api.NDefine:
		w.put(n.Text, " := ")
		w.expr(w.kid(n, 0))
	case api.NAssign:
		w.expr(w.kid(n, 0))
		w.put(" = ")
		w.expr(w.kid(n, 1))
	case api.NCallStmt:
		w.expr(w.kid(n, 0))
	case api.NIf:
		w.ifStatement(n)
	case api.NFor:
		w.forStatement(n)
	case api.NBreak:
		w.put("break")
	case api.NContinue:
		w.put("continue")
	case api.NReturn:
		w.returnStatement(n)
	case api.NDefer:
		w.put("defer ")
		w.expr(w.kid(n, 0))
	}
}

func (w *writer) ifStatement(n api.Node) {
	w.put("if ")
	w.expr(w.kid(n, 0))
	w.put(" ")
	w.block(w.kid(n, 1))
	if len(n.Kids) > 2 {
		w.put(" else ")
		w.statement(w.kid(n, 2))
	}
}

func (w *writer) forStatement(n api.Node) {
	w.put("for ")
	if len(n.Kids) > 1 {
		w.expr(w.kid(n, 0))
		w.put(" ")
	}
	w.block(w.kid(n, len(n.Kids)-1))
}

func (w *writer) returnStatement(n api.Node) {
	w.put("return")
	if len(n.Kids) > 0 {
		w.put(" ")
		w.expr(w.kid(n, 0))
	}
}

// expr writes an expression; of NNone it writes nothing.
func (w *writer) expr(n api.Node) {
	switch n.Kind {
	case api.NInt:
		w.put(word.Text(n.Num))
	case api.NText:
		quoted, _ := scan.Quote(n.Text)
		w.put(quoted)
	case api.NBool:
		if n.Num == 1 {
			w.put("true")
		} else {
			w.put("false")
		}
	case api.NNil:
		w.put("nil")
	case api.NName:
		w.put(n.Text)
	case api.NUnary:
		w.put(n.Text)
		w.bracketed(w.kid(n, 0), w.kid(n, 0).Kind == api.NBinary)
	case api.NBinary:
		w.binary(n)
	case api.NCall, api.NIndex, api.NSlice:
		w.part(n)
	case api.NList:
		w.put("[]int{")
		w.exprs(n.Kids)
		w.put("}")
	case api.NLit:
		w.put("func")
		w.head(n)
	}
}

// bracketed writes an expression, in brackets if it needs them.
func (w *writer) bracketed(n api.Node, needed bool) {
	if !needed {
		w.expr(n)
		return
	}
	w.put("(")
	w.expr(n)
	w.put(")")
}

func (w *writer) binary(n api.Node) {
	left, right, tight := w.kid(n, 0), w.kid(n, 1), tightness(n.Text)
	w.bracketed(left, left.Kind == api.NBinary && tightness(left.Text) < tight)
	w.put(" ", n.Text, " ")
	w.bracketed(right, right.Kind == api.NBinary && tightness(right.Text) <= tight)
}

// part writes a call, an index or a slice.
func (w *writer) part(n api.Node) {
	of := w.kid(n, 0)
	w.bracketed(of, of.Kind == api.NUnary || of.Kind == api.NBinary)
	switch n.Kind {
	case api.NCall:
		w.put("(")
		w.exprs(n.Kids[1:])
		w.put(")")
	case api.NIndex:
		w.put("[")
		w.expr(w.kid(n, 1))
		w.put("]")
	case api.NSlice:
		w.put("[")
		w.expr(w.kid(n, 1))
		w.put(":")
		w.expr(w.kid(n, 2))
		w.put("]")
	}
}

// exprs writes expressions with a comma between two.
func (w *writer) exprs(nodes []int) {
	for i, node := range nodes {
		if i > 0 {
			w.put(", ")
		}
		w.expr(w.tree[node])
	}
}
