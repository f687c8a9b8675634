package check

import (
	"slices"
	"strings"

	"panicroad/api"
	"panicroad/parse"
	"panicroad/types"
)

// reading is a second way to what the chapter asks for: the nodes are looked at one by one as they are laid, and what a name means is sought upwards among all declarations of the tree.
type reading struct {
	tree   []api.Node
	parent []int
	types  []string
	refs   []int
}

// wrongs are what is wrong with a node, the first one first.
type wrongs []api.Errno

func (w *wrongs) unless(holds bool, code api.Errno) {
	if !holds {
		*w = append(*w, code)
	}
}

// expect is what Check must answer.
func expect(tree []api.Node) (api.Info, api.Blame) {
	if !parse.Good(tree) {
		return api.Info{}, api.Blame{Code: api.ErrForm}
	}
	r := reading{tree: tree, parent: make([]int, len(tree)), types: make([]string, len(tree)), refs: make([]int, len(tree))}
	for i, n := range tree {
		r.refs[i] = -1
		for _, kid := range n.Kids {
			r.parent[kid] = i
		}
	}
	if b := r.file(); b != (api.Blame{}) {
		return api.Info{}, b
	}
	for i := range tree {
		if b := r.all(i); b != (api.Blame{}) {
			return api.Info{}, b
		}
	}
	return r.info(), api.Blame{}
}

func (r *reading) functions() []int { return r.tree[len(r.tree)-1].Kids }

// named is the number of the first function of a name, or -1.
func (r *reading) named(name string) int {
	return slices.IndexFunc(r.functions(), func(at int) bool { return r.tree[at].Text == name })
}

func builtIns() []string { return strings.Fields("len append println panic recover exit toint isint") }

func (r *reading) file() api.Blame {
	for number, at := range r.functions() {
		if name := r.tree[at].Text; r.named(name) < number || slices.Contains(builtIns(), name) {
			return api.Blame{Code: api.ErrTwice, Node: at}
		}
	}
	main := r.named("main")
	if main < 0 || r.funcText(r.functions()[main]) != "func()" {
		return api.Blame{Code: api.ErrMain, Node: len(r.tree) - 1}
	}
	return api.Blame{}
}

// funcText is a function's type, however long.
func (r *reading) funcText(at int) string {
	kids := r.tree[at].Kids
	var params []string
	for _, kid := range kids[:len(kids)-2] {
		params = append(params, r.tree[kid].Type)
	}
	return "func(" + strings.Join(params, ",") + ")" + r.tree[kids[len(kids)-2]].Type
}

// all is what is wrong at the time when a node is come to: with a function without a name that begins with it, with itself, with the statement whose condition it is.
func (r *reading) all(at int) api.Blame {
	parent := r.parent[at]
	above := r.tree[parent]
	if above.Kind == api.NLit && above.Kids[0] == at && len(r.funcText(parent)) > api.MaxType {
		return api.Blame{Code: api.ErrType, Node: parent}
	}
	if w := r.node(at); len(w) > 0 {
		return api.Blame{Code: w[0], Node: at}
	}
	condition := above.Kind == api.NIf && above.Kids[0] == at || above.Kind == api.NFor && above.Kids[0] == at && len(above.Kids) == 2
	if condition && r.types[at] != "bool" {
		return api.Blame{Code: api.ErrType, Node: parent}
	}
	return api.Blame{}
}

// declares is whether a node declares a variable.
func (r *reading) declares(at int) bool {
	switch n := r.tree[at]; n.Kind {
	case api.NParam, api.NVar, api.NDefine:
		return true
	case api.NResult:
		return n.Type != ""
	}
	return false
}

// number is how many variables are declared ahead of a node.
func (r *reading) number(at int) int {
	n := 0
	for i := range at {
		if r.declares(i) {
			n++
		}
	}
	return n
}

// declared is the node that a name's variable is declared at, or -1: of those ahead of it whose scope is the nearest one around it.
func (r *reading) declared(at int) int {
	for up := at; up != len(r.tree)-1; up = r.parent[up] {
		for i := range at {
			if r.declares(i) && r.parent[i] == r.parent[up] && r.tree[i].Text == r.tree[at].Text {
				return i
			}
		}
	}
	return -1
}

// function is the node of the function that a node stands in.
func (r *reading) function(at int) int {
	for at = r.parent[at]; r.tree[at].Kind != api.NFunc && r.tree[at].Kind != api.NLit; at = r.parent[at] {
	}
	return at
}

// result is the NResult of the function that a node stands in.
func (r *reading) result(at int) api.Node {
	kids := r.tree[r.function(at)].Kids
	return r.tree[kids[len(kids)-2]]
}

// loops is whether a node stands in a for of its function.
func (r *reading) loops(at int) bool {
	for up := at; up != r.function(at); up = r.parent[up] {
		if r.tree[up].Kind == api.NFor {
			return true
		}
	}
	return false
}

// callsBuiltIn is whether a call is of a built-in.
func (r *reading) callsBuiltIn(call int) bool {
	called := r.tree[r.tree[call].Kids[0]]
	return called.Kind == api.NName && slices.Contains(builtIns(), called.Text)
}

// declare is what is wrong with a declaration.
func (r *reading) declare(at int) (w wrongs) {
	name := r.tree[at].Text
	again := false
	for i := range at {
		again = again || name != "" && r.declares(i) && r.parent[i] == r.parent[at] && r.tree[i].Text == name
	}
	r.refs[at] = r.number(at)
	w.unless(!again && !slices.Contains(builtIns(), name), api.ErrTwice)
	w.unless(r.refs[at] < api.MaxVars, api.ErrFull)
	return w
}

// varType is the type of the variable that a node declares.
func (r *reading) varType(at int) string {
	if n := r.tree[at]; n.Kind == api.NDefine {
		return r.types[n.Kids[0]]
	}
	return r.tree[at].Type
}

// node is what is wrong with a node itself, all of whose kids are right.
func (r *reading) node(at int) (w wrongs) {
	n := r.tree[at]
	var kids []string
	for _, kid := range n.Kids {
		kids = append(kids, r.types[kid])
	}
	switch n.Kind {
	case api.NParam, api.NVar, api.NResult:
		if r.declares(at) {
			return r.declare(at)
		}
	case api.NDefine:
		w.unless(kids[0] != "" && kids[0] != "nil", api.ErrType)
		return append(w, r.declare(at)...)
	case api.NAssign:
		place := r.tree[n.Kids[0]]
		w.unless(place.Kind != api.NName || r.refs[n.Kids[0]] < api.RefFunc, api.ErrType)
		w.unless(place.Kind != api.NIndex || r.types[place.Kids[0]] != "string", api.ErrType)
		w.unless(types.Fits(kids[1], kids[0]), api.ErrType)
	case api.NBreak, api.NContinue:
		w.unless(r.loops(at), api.ErrPlace)
	case api.NReturn:
		result := r.result(at)
		w.unless(len(kids) == 0 || result.Type != "", api.ErrArgs)
		w.unless(len(kids) == 1 || result.Type == "" || result.Text != "", api.ErrArgs)
		w.unless(len(kids) == 0 || types.Fits(kids[0], result.Type), api.ErrType)
	case api.NDefer:
		w.unless(!r.callsBuiltIn(n.Kids[0]), api.ErrPlace)
	case api.NName:
		return r.name(at)
	case api.NCall:
		return r.call(at, kids)
	case api.NUnary, api.NBinary, api.NIndex, api.NSlice, api.NList:
		r.types[at] = r.form(at, kids)
		w.unless(r.types[at] != "", api.ErrType)
	case api.NLit:
		r.types[at] = r.funcText(at)
	default:
		r.types[at] = map[int]string{api.NInt: "int", api.NText: "string", api.NBool: "bool", api.NNil: "nil"}[n.Kind]
	}
	return w
}

func (r *reading) name(at int) (w wrongs) {
	parent := r.parent[at]
	if up := r.tree[parent]; up.Kind == api.NCall && up.Kids[0] == at && r.callsBuiltIn(parent) {
		r.refs[at] = api.RefBuilt + slices.Index(builtIns(), r.tree[at].Text)
		return nil
	}
	if i := r.declared(at); i >= 0 {
		r.refs[at], r.types[at] = r.refs[i], r.varType(i)
		return nil
	}
	number := r.named(r.tree[at].Text)
	if number < 0 {
		return wrongs{api.ErrName}
	}
	r.refs[at], r.types[at] = api.RefFunc+number, r.funcText(r.functions()[number])
	w.unless(len(r.types[at]) <= api.MaxType, api.ErrType)
	return w
}

// builtForms are the calls of built-ins but println that are right, with their types.
func builtForms() map[string]string {
	return map[string]string{"len []int": "int", "len string": "int", "append []int int": "[]int", "panic int": "", "panic string": "", "panic any": "",
		"recover": "any", "exit int": "", "toint any": "int", "isint any": "bool"}
}

func (r *reading) call(at int, kids []string) (w wrongs) {
	if r.callsBuiltIn(at) {
		name := r.tree[r.tree[at].Kids[0]].Text
		if name == "println" {
			w.unless(!slices.Contains(kids[1:], ""), api.ErrType)
			return w
		}
		count := map[string]int{"append": 2, "recover": 0}
		wanted, told := count[name]
		if !told {
			wanted = 1
		}
		w.unless(len(kids)-1 == wanted, api.ErrArgs)
		given, right := builtForms()[strings.Join(append([]string{name}, kids[1:]...), " ")]
		w.unless(right, api.ErrType)
		r.types[at] = given
		return w
	}
	params, e := types.Params(kids[0])
	w.unless(e == api.OK, api.ErrType)
	w.unless(len(kids)-1 == len(params), api.ErrArgs)
	for i := 0; i < len(params) && i+1 < len(kids); i++ {
		w.unless(types.Fits(kids[i+1], params[i]), api.ErrType)
	}
	r.types[at], _ = types.Result(kids[0])
	return w
}

// form is the type of an expression that is no name and no call, by what it is made of; empty: it is wrong.
func (r *reading) form(at int, kids []string) string {
	n := r.tree[at]
	switch n.Kind {
	case api.NUnary:
		return map[string]string{"- int": "int", "! bool": "bool", "* *int": "int", "& int": "*int"}[n.Text+" "+kids[0]]
	case api.NIndex:
		return map[string]string{"[]int int": "int", "string int": "int"}[kids[0]+" "+kids[1]]
	case api.NSlice:
		for i, kid := range n.Kids[1:] {
			if r.tree[kid].Kind != api.NNone && kids[i+1] != "int" {
				return ""
			}
		}
		return map[string]string{"[]int": "[]int", "string": "string"}[kids[0]]
	case api.NList:
		if slices.ContainsFunc(kids, func(t string) bool { return t != "int" }) {
			return ""
		}
		return "[]int"
	}
	return rightBetween(n.Text, kids[0], kids[1])
}

// rightBetween is the type of two operands with a sign between them; empty: it is wrong.
func rightBetween(sign, left, right string) string {
	ints, texts, bools := left+right == "intint", left+right == "stringstring", left+right == "boolbool"
	switch {
	case strings.Contains(" + - * / % << >> & | ^ ", " "+sign+" ") && ints:
		return "int"
	case sign == "+" && texts:
		return "string"
	case strings.Contains(" && || ", " "+sign+" ") && bools, strings.Contains(" < <= > >= ", " "+sign+" ") && (ints || texts):
		return "bool"
	case (sign == "==" || sign == "!=") && types.Compares(left, right):
		return "bool"
	}
	return ""
}

// info is what is known of a tree that was gone through and is right.
func (r *reading) info() api.Info {
	info := api.Info{Types: r.types, Refs: r.refs}
	for at := range r.tree {
		if r.declares(at) {
			info.VarTypes = append(info.VarTypes, r.varType(at))
			info.Boxed = append(info.Boxed, r.boxed(r.refs[at], r.function(at)))
			info.Owner = append(info.Owner, r.function(at))
		}
	}
	return info
}

// boxed is whether a variable of a function is used by another one, or has its address taken.
func (r *reading) boxed(number, owner int) bool {
	for at, n := range r.tree {
		if n.Kind != api.NName || r.refs[at] != number {
			continue
		}
		if r.function(at) != owner || r.tree[r.parent[at]].Text == "&" && r.tree[r.parent[at]].Kind == api.NUnary {
			return true
		}
	}
	return false
}

// sameInfo is whether two say the same, lists without elements being alike.
func sameInfo(a, b api.Info) bool {
	return slices.Equal(a.Types, b.Types) && slices.Equal(a.Refs, b.Refs) && slices.Equal(a.VarTypes, b.VarTypes) && slices.Equal(a.Boxed, b.Boxed) && slices.Equal(a.Owner, b.Owner)
}
