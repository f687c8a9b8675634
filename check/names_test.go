package check

import (
	"strings"
	"testing"

	"panicroad/api"
)

// P5.2: what may be hidden, and where.
func TestHiding(t *testing.T) {
	for _, src := range []string{
		"x := 1; { x := \"\"; println(x + \"\") }; println(x + 1)",
		"x := 1; if true { x := \"\"; println(x + \"\") } else { x := true; println(!x) }; x = 2",
		"x := 1; for { x := x + 1; { x := x == 1; println(!x) }; x = 2 }",
		"none := 1; println(none + 1)",
		"{ none := 1; none = 2 }; none()",
		"none(); none := 1; none = 2",
		"one := one(1); println(one + 1)",
		"x := 1; f := func() { x = 2; x := \"\"; println(x + \"\") }; f()",
		"f := func(x int) { x := \"\"; println(x + \"\") }; f(1); x := true; println(!x)",
		"x := 1; f := func(x string) (y bool) { println(x + \"\"); return y }; println(!f(\"\"), x + 1)",
		"x := 1; { y := x }; { y := x; x := y }; y := 2",
		"main := 1; println(main + 1)",
		"var x int; { var x string; x = \"\" }; x = 1",
		"x := func(x int) int { return x }(1); println(x + 1)",
		"x := 1; f := func() (x string) { return x + \"\" }; println(f() + \"\", x + 1)",
	} {
		right(t, body(src))
	}
	right(t, "func f(a int) (r string) { println(a + 1, r + \"\"); a := true; r := 1; println(!a, r + 1) }; func main() {}")
	right(t, "func f(f int) { f = 1 }; func g(a int) (main int) { main = a; return }; func main() {}")
	right(t, "func f(a int) int { return a }; func g(a int) string { return \"\" }; func main() {}")
}

// P5.2
func TestUnknownNames(t *testing.T) {
	allBlamed(t, body,
		wrong{"x = 1", api.ErrName, api.NName, 0},
		wrong{"println(x); x := 1", api.ErrName, api.NName, 1},
		wrong{"println(x); var x int", api.ErrName, api.NName, 1},
		wrong{"x := x", api.ErrName, api.NName, 0},
		wrong{"f := func() { f() }", api.ErrName, api.NName, 0},
		wrong{"f := func() { println(x) }; x := 1", api.ErrName, api.NName, 1},
		wrong{"{ x := 1 }; x = 2", api.ErrName, api.NName, 0},
		wrong{"for { x := 1 }; x = 2", api.ErrName, api.NName, 0},
		wrong{"if true { x := 1 } else { x = 2 }", api.ErrName, api.NName, 0},
		wrong{"f := func(a int) (r int) { y := 1 }; println(a)", api.ErrName, api.NName, 1},
		wrong{"f := func(a int) (r int) { y := 1 }; println(r)", api.ErrName, api.NName, 1},
		wrong{"f := func(a int) (r int) { y := 1 }; println(y)", api.ErrName, api.NName, 1},
		wrong{"println(s)", api.ErrName, api.NName, 1},
		wrong{"p := &x", api.ErrName, api.NName, 0},
		wrong{"defer x()", api.ErrName, api.NName, 0},
		wrong{"Println()", api.ErrName, api.NName, 0},
	)
	blamed(t, "func f() { x := 1 }; func main() { x = 1 }", api.ErrName, api.NName, 0)
	blamed(t, "func main() { x() }; func f(x func()) {}", api.ErrName, api.NName, 0)
}

// P5.2
func TestTakenNames(t *testing.T) {
	allBlamed(t, body,
		wrong{"x := 1; var x string", api.ErrTwice, api.NVar, 0},
		wrong{"var x int; var x int", api.ErrTwice, api.NVar, 1},
		wrong{"var x int; { x := 1 }; { x := 1; x := 2 }", api.ErrTwice, api.NDefine, 2},
		wrong{"f := func(a int, b int, a int) {}", api.ErrTwice, api.NParam, 2},
		wrong{"f := func(a int) (a int) {}", api.ErrTwice, api.NResult, 1},
	)
	allBlamed(t, body,
		wrong{"one := 1; one(1)", api.ErrType, api.NCall, 0},
		wrong{"one := func() {}; one(1)", api.ErrArgs, api.NCall, 0},
		wrong{"one := \"\"; { println(one - 1) }", api.ErrType, api.NBinary, 0},
	)
}

// P5.2
func TestBuiltInNames(t *testing.T) {
	for _, name := range builtIns() {
		allBlamed(t, body,
			wrong{"x := " + name, api.ErrName, api.NName, 0},
			wrong{name + " = 1", api.ErrName, api.NName, 0},
			wrong{"x := &" + name, api.ErrName, api.NName, 0},
			wrong{"none(" + name + ")", api.ErrName, api.NName, 1},
			wrong{name + "[0] = 1", api.ErrName, api.NName, 0},
			wrong{"println(1, " + name + ")", api.ErrName, api.NName, 1},
			wrong{name + " := 1", api.ErrTwice, api.NDefine, 0},
			wrong{"var " + name + " int", api.ErrTwice, api.NVar, 0},
			wrong{"x := func(" + name + " int) {}", api.ErrTwice, api.NParam, 0},
			wrong{"x := func() (" + name + " int) {}", api.ErrTwice, api.NResult, 1},
		)
	}
	right(t, body("(println)((len)(\"\"))"))
	right(t, body("Len := 1; len_ := Len; println(len_)"))
}

// many are statements that declare so many variables.
func many(count int) string { return strings.Repeat("{ x := 1 };", count) }

// P5.2: MaxVars just met.
func TestMostVariables(t *testing.T) {
	tree, info := right(t, "func main() {"+many(api.MaxVars)+"}")
	if last := nodeOf(tree, api.NDefine, api.MaxVars-1); len(info.VarTypes) != api.MaxVars || info.Refs[last] != api.MaxVars-1 {
		t.Errorf("%v", info)
	}
	right(t, "func main() {"+many(api.MaxVars-2)+"}; func f(a int) int { return a }")
	right(t, "func main() {"+many(api.MaxVars-2)+"f := func() (r int) {} }")
	right(t, "func main() {"+many(api.MaxVars)+"}; func f() {}")
}

// P5.2: MaxVars just passed.
func TestTooManyVariables(t *testing.T) {
	all := "func main() {" + many(api.MaxVars)
	few := "func main() {" + many(api.MaxVars-2)
	allBlamed(t, asItIs,
		wrong{all + "y := 1 }", api.ErrFull, api.NDefine, api.MaxVars},
		wrong{all + "var y int }", api.ErrFull, api.NVar, 0},
		wrong{all + "}; func f(a int) {}", api.ErrFull, api.NParam, 0},
		wrong{all + "}; func f() (r int) {}", api.ErrFull, api.NResult, 1},
		wrong{all + "}; func f() int {}", api.ErrFull, api.NResult, 1},
		wrong{few + "}; func f(a int) int { b := 1 }", api.ErrFull, api.NDefine, api.MaxVars - 2},
		wrong{few + "f := func(a int) (r int) {} }", api.ErrFull, api.NDefine, api.MaxVars - 2},
		wrong{few + "f := func(a int) (r int) { x() } }", api.ErrName, api.NName, 0},
		wrong{all + "}; func f(len int) {}", api.ErrTwice, api.NParam, 0},
		wrong{"func main() { y := 1;" + many(api.MaxVars-1) + "y := 2 }", api.ErrTwice, api.NDefine, api.MaxVars},
		wrong{all + "y := nil }", api.ErrType, api.NDefine, api.MaxVars},
		wrong{all + "y := y }", api.ErrName, api.NName, 0},
	)
}
