package check

import (
	"strings"
	"testing"

	"panicroad/api"
	"panicroad/types"
)

// P5.5: each sample given to each place.
func TestAssign(t *testing.T) {
	places := []sample{{"n", "int"}, {"b", "bool"}, {"s", "string"}, {"x", "any"}, {"l", "[]int"}, {"p", "*int"}, {"f", "func(int)int"}, {"*p", "int"}, {"*&n", "int"}, {"l[n]", "int"}, {"[]int{1}[0]", "int"}, {"l[1:][0]", "int"},
		{"s[0]", ""}, {"\"a\"[0]", ""}, {"s[:][0]", ""}, {"one", ""}, {"none", ""}}
	for _, place := range places {
		for _, a := range samples() {
			src := withVariables(place.src + " = " + a.src)
			if place.of != "" && types.Fits(a.of, place.of) {
				right(t, src)
			} else {
				blamed(t, src, api.ErrType, api.NAssign, 0)
			}
		}
	}
	allBlamed(t, withVariables,
		wrong{"n[0] = 1", api.ErrType, api.NIndex, 0},
		wrong{"*n = 1", api.ErrType, api.NUnary, 0},
		wrong{"*x = 1", api.ErrType, api.NUnary, 0},
		wrong{"l[b] = 1", api.ErrType, api.NIndex, 0},
		wrong{"**p = 1", api.ErrType, api.NUnary, 1},
	)
}

// P5.5: each sample as each condition.
func TestConditions(t *testing.T) {
	for _, a := range samples() {
		condition := "(" + a.src + ")"
		for src, kind := range map[string]int{"if " + condition + " { x = 1 }": api.NIf, "if " + condition + " {} else { x = 1 }": api.NIf, "if b {} else if " + condition + " {}": api.NIf,
			"for " + condition + " { x = 1 }": api.NFor, "for { for " + condition + " {} }": api.NFor} {
			if a.of == "bool" {
				right(t, withVariables(src))
			} else {
				blamed(t, withVariables(src), api.ErrType, kind, 0)
			}
		}
	}
	right(t, body("for {}"))
	right(t, body("for { if true {} else if false {} else {} }"))
	allBlamed(t, body,
		wrong{"if true { break } else { y() }", api.ErrPlace, api.NBreak, 0},
		wrong{"for true { y() }", api.ErrName, api.NName, 0},
		wrong{"for { y() }", api.ErrName, api.NName, 0},
		wrong{"if true {} else if true {} else { y() }", api.ErrName, api.NName, 0},
	)
}

// P5.5
func TestBreaks(t *testing.T) {
	for word, kind := range map[string]int{"break": api.NBreak, "continue": api.NContinue} {
		for _, src := range []string{"for { % }", "for true { if true { { % } } }", "for { for {}; % }", "f := func() { for { % } }", "for { f := func() { for { % } }; % }", "for { for { % }; % }", "for func() bool { for { % }; return true }() { % }"} {
			right(t, body(strings.ReplaceAll(src, "%", word)))
		}
		for _, src := range []string{"%", "{ % }", "if true { % }", "for {}; %", "for { f := func() { % } }", "for func() bool { % }() {}", "for { for {} }; if true {} else { % }", "for { f := func() { { % } }; f() }", "f := func() { for {} }; %", "for { f := func() { %; for { % } }; % }"} {
			blamed(t, body(strings.ReplaceAll(src, "%", word)), api.ErrPlace, kind, 0)
		}
		blamed(t, body("for { f := func() {}; "+word+" }; "+word), api.ErrPlace, kind, 1)
	}
}

// P5.5: each sample returned as each result, with a name and without one.
func TestReturns(t *testing.T) {
	for _, result := range []string{"int", "bool", "string", "any", "[]int", "*int", "func(int)int", "func()"} {
		for _, head := range []string{result, "(r " + result + ")"} {
			inner := func(s string) string { return withVariables("h := func() " + head + " {" + s + "}") }
			for _, a := range samples() {
				if types.Fits(a.of, result) {
					right(t, inner("return "+a.src))
				} else {
					blamed(t, inner("return "+a.src), api.ErrType, api.NReturn, 0)
				}
			}
			right(t, inner(""))
			if head == result {
				blamed(t, inner("if b { return }"), api.ErrArgs, api.NReturn, 0)
			} else {
				right(t, inner("if b { return }"))
			}
		}
	}
	for _, a := range samples() {
		blamed(t, withVariables("return "+a.src), api.ErrArgs, api.NReturn, 0)
		blamed(t, withVariables("h := func(a int) { return "+a.src+"}"), api.ErrArgs, api.NReturn, 0)
	}
}

// P5.5: a return is of the function that it stands in.
func TestReturnsWithin(t *testing.T) {
	right(t, body("return"))
	right(t, body("f := func() int { return 1 }; return"))
	right(t, "func main() {}; func f() int { g := func() { return }; return 1 }")
	right(t, "func main() {}; func f() int { g := func() (r string) { return }; return 1 }")
	right(t, "func main() {}; func f() int { for { if true { return 1 } } }")
	blamed(t, "func main() {}; func f() int { g := func() { return 1 }; return 1 }", api.ErrArgs, api.NReturn, 0)
	blamed(t, "func main() {}; func f() int { g := func() string { return \"\" }; return \"\" }", api.ErrType, api.NReturn, 1)
	blamed(t, "func main() {}; func f() { g := func() int { return 1 }; return 1 }", api.ErrArgs, api.NReturn, 1)
}

// P5.5
func TestDefers(t *testing.T) {
	for _, src := range []string{"defer none()", "defer one(1)", "defer func() {}()", "defer func(a int) int { return a }(1)", "f := none; for { defer f() }", "defer func() func() { return none }()()", "defer (none)()"} {
		right(t, body(src))
	}
	for _, call := range []string{"len(\"\")", "append([]int{}, 1)", "println()", "println(1)", "panic(1)", "recover()", "exit(1)", "toint(recover())", "isint(recover())", "(recover)()"} {
		blamed(t, body("defer "+call), api.ErrPlace, api.NDefer, 0)
		right(t, body(call))
	}
	blamed(t, body("defer one()"), api.ErrArgs, api.NCall, 0)
	blamed(t, body("defer one(true)"), api.ErrType, api.NCall, 0)
	blamed(t, body("defer recover()()"), api.ErrType, api.NCall, 1)
}
