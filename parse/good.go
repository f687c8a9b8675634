package parse

import (
	"slices"

	"panicroad/api"
	"panicroad/scan"
	"panicroad/types"
)

// stands is whether a node may stand somewhere.
type stands func(n api.Node) bool

// oneOf lets nodes of these kinds stand.
func oneOf(kinds ...int) stands {
	return func(n api.Node) bool { return slices.Contains(kinds, n.Kind) }
}

// either lets stand what one of the two does.
func either(a, b stands) stands {
	return func(n api.Node) bool { return a(n) || b(n) }
}

func expression() stands {
	return oneOf(api.NInt, api.NText, api.NBool, api.NNil, api.NName, api.NUnary, api.NBinary,
		api.NCall, api.NIndex, api.NSlice, api.NList, api.NLit)
}

func statement() stands {
	return oneOf(api.NBlock, api.NVar, api.NDefine, api.NAssign, api.NCallStmt, api.NIf, api.NFor,
		api.NBreak, api.NContinue, api.NReturn, api.NDefer)
}

// place lets stand what can be assigned to.
func place() stands {
	pointed := func(n api.Node) bool { return n.Kind == api.NUnary && n.Text == "*" }
	return either(oneOf(api.NName, api.NIndex), pointed)
}

// Good is whether a tree is well-made.
func Good(tree []api.Node) bool {
	if len(tree) == 0 || len(tree) > 2*api.MaxTokens || !laid(tree) {
		return false
	}
	if tree[len(tree)-1].Kind != api.NFile {
		return false
	}
	for _, n := range tree {
		if !fieldsFit(n) || !kidsFit(tree, n) {
			return false
		}
	}
	return true
}

// laid is whether all nodes are one tree, each right behind its last kid, and each kid's nodes right behind those of the kid ahead of it.
func laid(tree []api.Node) bool {
	first := make([]int, len(tree))
	for i, n := range tree {
		begin := i
		for k := len(n.Kids) - 1; k >= 0; k-- {
			if begin == 0 || n.Kids[k] != begin-1 {
				return false
			}
			begin = first[begin-1]
		}
		first[i] = begin
	}
	return first[len(tree)-1] == 0
}

// fieldsFit is whether a node's Text, Type and Num are those of its kind; how many parameters Num tells is left to kidsFit.
func fieldsFit(n api.Node) bool {
	text, typed, num := n.Text == "", n.Type == "", n.Num == 0
	switch n.Kind {
	case api.NFunc:
		text, num = isName(n.Text), true
	case api.NLit:
		num = true
	case api.NParam, api.NVar:
		text, typed = isName(n.Text), types.Valid(n.Type)
	case api.NResult:
		return num && resultFits(n)
	case api.NDefine, api.NName:
		text = isName(n.Text)
	case api.NInt:
		num = n.Num >= 0
	case api.NBool:
		num = n.Num == 0 || n.Num == 1
	case api.NText:
		_, wrong := scan.Quote(n.Text)
		text = wrong == api.OK
	case api.NUnary:
		text = slices.Contains([]string{"-", "!", "*", "&"}, n.Text)
	case api.NBinary:
		text = tightness(n.Text) > 0
	}
	return text && typed && num
}

// resultFits is whether a result has nothing, a type, or a name and a type.
func resultFits(n api.Node) bool {
	if n.Type == "" {
		return n.Text == ""
	}
	return types.Valid(n.Type) && (n.Text == "" || isName(n.Text))
}

// isName is whether a text is wholly one name, as tokens are shown.
func isName(text string) bool {
	_, wrong := scan.Show([]api.Token{{Kind: api.TokName, Text: text}})
	return wrong == api.OK
}

// kidsFit is whether a node has as many kids as its kind asks for, each of them where it may stand.
func kidsFit(tree []api.Node, n api.Node) bool {
	these := func(wanted ...stands) bool { return fit(tree, n.Kids, wanted) }
	all := func(wanted stands) bool { return fit(tree, n.Kids, times(wanted, len(n.Kids))) }
	value, block := expression(), oneOf(api.NBlock)
	switch n.Kind {
	case api.NFile:
		return all(oneOf(api.NFunc))
	case api.NFunc, api.NLit:
		return n.Num >= 0 && n.Num <= api.MaxParams && these(headKids(n.Num)...)
	case api.NBlock:
		return all(statement())
	case api.NDefine:
		return these(value)
	case api.NAssign:
		return these(place(), value)
	case api.NCallStmt, api.NDefer:
		return these(oneOf(api.NCall))
	case api.NIf:
		return these(value, block) || these(value, block, oneOf(api.NBlock, api.NIf))
	case api.NFor:
		return these(block) || these(value, block)
	case api.NReturn:
		return these() || these(value)
	case api.NUnary:
		return these(operandOf(n.Text))
	case api.NBinary, api.NIndex:
		return these(value, value)
	case api.NCall:
		return len(n.Kids) > 0 && all(value)
	case api.NSlice:
		bound := either(value, oneOf(api.NNone))
		return these(value, bound, bound)
	case api.NList:
		return all(value)
	case api.NParam, api.NResult, api.NVar, api.NBreak, api.NContinue,
		api.NInt, api.NText, api.NBool, api.NNil, api.NName, api.NNone:
		return these()
	}
	return false
}

// fit is whether the kids are as many as are wanted, and each may stand where it does.
func fit(tree []api.Node, kids []int, wanted []stands) bool {
	if len(kids) != len(wanted) {
		return false
	}
	for i, kid := range kids {
		if !wanted[i](tree[kid]) {
			return false
		}
	}
	return true
}

// times is a list of so many of the same.
func times(wanted stands, count int) []stands {
	list := make([]stands, count)
	for i := range list {
		list[i] = wanted
	}
	return list
}

// headKids are what a function of so many parameters is made of.
func headKids(params int) []stands {
	return append(times(oneOf(api.NParam), params), oneOf(api.NResult), oneOf(api.NBlock))
}

// operandOf lets stand what may stand behind a sign.
func operandOf(sign string) stands {
	if sign == "&" {
		return oneOf(api.NName)
	}
	return expression()
}
