package check

import (
	"slices"
	"strings"
	"testing"

	"panicroad/api"
	"panicroad/types"
)

// P5.4: what is called.
func TestCalled(t *testing.T) {
	for _, a := range samples() {
		if strings.HasPrefix(a.of, "func(") {
			continue
		}
		for _, args := range []string{"()", "(1)", "(1, 2)"} {
			typedSo(t, "("+a.src+")"+args, "")
		}
	}
	for _, called := range []string{"one", "f", "func(a int) int { return a }", "func() func(int) int { return one }()"} {
		typedSo(t, called+"(1)", "int")
	}
	typedSo(t, "func() any { return nil }()", "any")
	tree, info := right(t, body("none(); f := none; f()"))
	for place := range 2 {
		if at := nodeOf(tree, api.NCall, place); info.Types[at] != "" || info.Types[at-1] != "func()" {
			t.Errorf("%v", info.Types)
		}
	}
	blamed(t, body("none()()"), api.ErrType, api.NCall, 1)
	blamed(t, body("recover()()"), api.ErrType, api.NCall, 1)
}

// P5.4: how many arguments.
func TestArguments(t *testing.T) {
	allBlamed(t, withVariables,
		wrong{"one()", api.ErrArgs, api.NCall, 0},
		wrong{"one(1, 2)", api.ErrArgs, api.NCall, 0},
		wrong{"one(true, true)", api.ErrArgs, api.NCall, 0},
		wrong{"one(true)", api.ErrType, api.NCall, 0},
		wrong{"none(1)", api.ErrArgs, api.NCall, 0},
		wrong{"none(none())", api.ErrArgs, api.NCall, 1},
		wrong{"two(\"\")", api.ErrArgs, api.NCall, 0},
		wrong{"two(nil, \"\")", api.ErrType, api.NCall, 0},
		wrong{"two(\"\", true)", api.ErrType, api.NCall, 0},
		wrong{"f(1, 2)", api.ErrArgs, api.NCall, 0},
		wrong{"f(s)", api.ErrType, api.NCall, 0},
		wrong{"func(a int) {}(b)", api.ErrType, api.NCall, 0},
	)
}

// P5.4: each sample as an argument for each parameter.
func TestFittingArguments(t *testing.T) {
	for _, to := range []string{"int", "bool", "string", "any", "[]int", "*int", "func()", "func(int)int", "func(*int)any"} {
		for _, a := range samples() {
			want := ""
			if types.Fits(a.of, to) {
				want = "int"
			}
			typedSo(t, "func(a "+to+") int { return 1 }("+a.src+")", want)
			typedSo(t, "func(k int, a "+to+") int { return 1 }(1, "+a.src+")", want)
		}
	}
}

// P5.4: each built-in with each few arguments.
func TestBuiltIns(t *testing.T) {
	calls := [][]sample{nil}
	for _, a := range samples() {
		calls = append(calls, []sample{a})
		for _, b := range samples() {
			calls = append(calls, []sample{a, b}, []sample{a, b, a})
		}
	}
	for _, name := range builtIns() {
		for _, args := range calls {
			builtCalled(t, name, args)
		}
	}
	right(t, body("println("+strings.Repeat("1, ", 50)+"nil, none, \"\", true)"))
}

// builtCalled fails unless a built-in's call is told, or blamed, as the chapter says.
func builtCalled(t *testing.T, name string, args []sample) {
	t.Helper()
	counts := map[string]int{"len": 1, "append": 2, "panic": 1, "recover": 0, "exit": 1, "toint": 1, "isint": 1, "println": len(args)}
	var sources, of []string
	for _, a := range args {
		sources, of = append(sources, a.src), append(of, a.of)
	}
	given, told := builtForms()[strings.Join(append([]string{name}, of...), " ")]
	if name == "println" {
		told = !slices.Contains(of, "")
	}
	tree := treeOf(t, withVariables(name+"("+strings.Join(sources, ", ")+")"))
	at := tree[nodeOf(tree, api.NCallStmt, 0)].Kids[0]
	info, blame := Check(tree)
	switch {
	case len(args) != counts[name]:
		if blame != (api.Blame{Code: api.ErrArgs, Node: at}) {
			t.Errorf("%s(%v): %v", name, of, blame)
		}
	case !told:
		if blame != (api.Blame{Code: api.ErrType, Node: at}) {
			t.Errorf("%s(%v): %v", name, of, blame)
		}
	case blame != (api.Blame{}) || info.Types[at] != given:
		t.Errorf("%s(%v): %v, %v; want %q", name, of, blame, info.Types, given)
	}
}
