package check

import (
	"slices"
	"strings"
	"testing"

	"panicroad/api"
	"panicroad/types"
)

// sample is an expression and its type.
type sample struct{ src, of string }

// declared are the variables that samples use.
const declared = "var n int; var b bool; var s string; var x any; var l []int; var p *int; var f func(int) int;"

// withVariables is a source whose main has the variables of the samples, and statements.
func withVariables(statements string) string { return body(declared + statements) }

// samples have each type, nil's, and none.
func samples() []sample {
	return []sample{{"n", "int"}, {"7", "int"}, {"b", "bool"}, {"true", "bool"}, {"s", "string"}, {"\"t\"", "string"}, {"x", "any"}, {"recover()", "any"}, {"l", "[]int"}, {"[]int{1}", "[]int"},
		{"p", "*int"}, {"&n", "*int"}, {"f", "func(int)int"}, {"one", "func(int)int"}, {"none", "func()"}, {"two", "func(string,any)string"}, {"func(a *int) any {}", "func(*int)any"}, {"nil", "nil"}, {"none()", ""}, {"println()", ""}}
}

// typedSo fails unless an expression has a type; empty: unless it is blamed with ErrType, at its own node.
func typedSo(t *testing.T, expr, want string) {
	t.Helper()
	tree := treeOf(t, withVariables("println("+expr+")"))
	printed := tree[tree[nodeOf(tree, api.NCallStmt, 0)].Kids[0]]
	at := printed.Kids[1]
	info, blame := Check(tree)
	if want == "" {
		if blame != (api.Blame{Code: api.ErrType, Node: at}) || !isEmpty(info) {
			t.Errorf("%s: %v", expr, blame)
		}
	} else if blame != (api.Blame{}) || info.Types[at] != want {
		t.Errorf("%s: %v, %v, want %s", expr, blame, info, want)
	}
}

// P5.3, P5.5: each sample by itself.
func TestSamples(t *testing.T) {
	for _, a := range samples() {
		if a.of != "" {
			typedSo(t, a.src, a.of)
		}
		src := withVariables("y := " + a.src)
		if a.of == "" || a.of == "nil" {
			blamed(t, src, api.ErrType, api.NDefine, 0)
			continue
		}
		tree, info := right(t, src)
		if got := info.VarTypes[info.Refs[nodeOf(tree, api.NDefine, 0)]]; got != a.of {
			t.Errorf("%s: %s", src, got)
		}
	}
	typedSo(t, "false", "bool")
	typedSo(t, "func() {}", "func()")
	typedSo(t, "func(a int, b func(int, any) *int) (r []int) {}", "func(int,func(int,any)*int)[]int")
}

// P5.3: each sign with each operand.
func TestUnary(t *testing.T) {
	rules := map[string]sample{"-": {"int", "int"}, "!": {"bool", "bool"}, "*": {"*int", "int"}}
	for _, a := range samples() {
		for sign, rule := range rules {
			want := ""
			if a.of == rule.src {
				want = rule.of
			}
			typedSo(t, sign+"("+a.src+")", want)
		}
	}
	for _, name := range []string{"b", "s", "x", "l", "p", "f", "none", "one", "main"} {
		typedSo(t, "&"+name, "")
	}
	typedSo(t, "&n", "*int")
	typedSo(t, "- - -n", "int")
	typedSo(t, "!!b", "bool")
	typedSo(t, "*&n", "int")
	typedSo(t, "-*p", "int")
	blamed(t, withVariables("println(-!n)"), api.ErrType, api.NUnary, 0)
	blamed(t, withVariables("println(**p)"), api.ErrType, api.NUnary, 1)
}

// P5.3: each sign with each two operands.
func TestBinary(t *testing.T) {
	for _, sign := range strings.Fields("|| && == != < <= > >= + - | ^ * / % << >> &") {
		for _, a := range samples() {
			for _, b := range samples() {
				typedSo(t, "("+a.src+") "+sign+" ("+b.src+")", rightBetween(sign, a.of, b.of))
			}
		}
	}
	for expr, want := range map[string]string{"1 + 2": "int", "\"\" + s": "string", "s - s": "", "b + b": "", "b == true": "bool", "b < b": "", "s <= s": "bool", "l == nil": "bool", "nil != f": "bool", "nil == nil": "", "l == l": "", "x == 1": "", "x == x": "", "x == nil": "bool", "n == nil": "", "s == nil": "",
		"n && b": "", "b && b || b": "bool", "n & n | n": "int", "n < n == b": "bool", "n << 1": "int", "f == nil": "bool", "none == nil": "bool", "one == one": "", "p == &n": "", "1 == \"\"": "", "s | s": "", "b & b": "", "l + l": "", "x + x": ""} {
		typedSo(t, expr, want)
	}
}

// P5.3: indices, slices, lists.
func TestElements(t *testing.T) {
	for _, a := range samples() {
		list := ""
		if a.of == "int" {
			list = "[]int"
		}
		typedSo(t, "[]int{1, "+a.src+"}", list)
		whole := ""
		if a.of == "[]int" || a.of == "string" {
			whole = a.of
		}
		typedSo(t, "("+a.src+")[:]", whole)
		for _, i := range samples() {
			index, slice := "", ""
			if whole != "" && i.of == "int" {
				index, slice = "int", whole
			}
			typedSo(t, "("+a.src+")["+i.src+"]", index)
			for _, bounds := range []string{i.src + ":", ":" + i.src, "2:" + i.src, i.src + ":2"} {
				typedSo(t, "("+a.src+")["+bounds+"]", slice)
			}
		}
	}
	typedSo(t, "[]int{}", "[]int")
	typedSo(t, "[]int{"+strings.Repeat("1, ", 2*api.MaxList)+"1}", "[]int")
	typedSo(t, "s[:][1:][0]", "int")
}

// P5.3: a function's type that would be too long is wrong where it is a value's, not by itself.
func TestLongTypes(t *testing.T) {
	long := "(a " + longest + ", b int)"
	allBlamed(t, asItIs,
		wrong{"func f" + long + " {}; func main() { f(x, x) }", api.ErrType, api.NName, 0},
		wrong{"func f" + long + " {}; func main() { println(1, f) }", api.ErrType, api.NName, 1},
		wrong{"func f" + long + " {}; func main() { f = x }", api.ErrType, api.NName, 0},
		wrong{"func f" + long + " {}; func main() { defer f() }", api.ErrType, api.NName, 0},
		wrong{"func f() " + longest + " {}; func main() { f() }", api.ErrType, api.NName, 0},
		wrong{"func main() { f := func" + long + " { x() } }", api.ErrType, api.NLit, 0},
		wrong{"func main() { f := func(a int, a " + longest + ") { x() } }", api.ErrType, api.NLit, 0},
		wrong{"func main() { f := func(len int) " + longest + " { x() } }", api.ErrType, api.NLit, 0},
		wrong{"func main() { x(func" + long + " {}) }", api.ErrName, api.NName, 0},
		wrong{"func main() { println(func() { g := func" + long + " {} }) }", api.ErrType, api.NLit, 0},
	)
	right(t, "func f"+long+" {}; func main() {}")
	right(t, "func f"+long+" {}; func main() { f := 1; f = 2 }")
	right(t, "func f(a "+longest+", b int) (r "+longest+") { return a }; func main() {}")
}

// P5.3: types of just MaxType bytes and fewer, and of more.
func TestTypeLengths(t *testing.T) {
	met := map[int]int{}
	for funcs := range api.MaxType/len("func()") + 1 {
		for _, last := range []string{"int", "bool", "[]int", "string"} {
			param := strings.Repeat("func()", funcs) + last
			if !types.Valid(param) {
				continue
			}
			size := len("func(" + param + ")")
			met[size]++
			named := "func f(a " + param + ") {}; func main() { g := f }"
			unnamed := "func main() { g := func(a " + param + ") {} }"
			if size > api.MaxType {
				blamed(t, named, api.ErrType, api.NName, 0)
				blamed(t, unnamed, api.ErrType, api.NLit, 0)
				continue
			}
			for _, src := range []string{named, unnamed} {
				if _, info := right(t, src); !slices.Equal(info.VarTypes, []string{param, "func(" + param + ")"}) {
					t.Errorf("%s: %v", src, info.VarTypes)
				}
			}
		}
	}
	if met[api.MaxType] == 0 || met[api.MaxType+1] == 0 {
		t.Errorf("%v", met)
	}
}
