package parse

import (
	"math/rand"
	"slices"
	"strings"
	"testing"

	"panicroad/api"
	"panicroad/scan"
)

// sameParse fails unless Parse answers what the grammar asks for, and is whether that is a tree.
func sameParse(t *testing.T, src string) bool {
	t.Helper()
	tree, spot := Parse(src)
	want, wantSpot, ways := expect(src)
	if ways > 1 {
		t.Fatalf("%q has %d trees", src, ways)
	}
	if spot != wantSpot || !sameTree(tree, want) {
		t.Fatalf("Parse(%q): %v, %v; want %v, %v", src, tree, spot, want, wantSpot)
	}
	if spot.Code == api.OK && !Good(tree) {
		t.Fatalf("Parse(%q) is not well-made: %v", src, tree)
	}
	return spot.Code == api.OK
}

// body is a source whose function main has these statements.
func body(statements string) string { return "func main() {" + statements + "}" }

// parses fails unless a source has a tree.
func parses(t *testing.T, src string) {
	t.Helper()
	if _, spot := Parse(src); spot != (api.Spot{}) {
		t.Errorf("Parse(%.200q): %v", src, spot)
	}
}

// refused fails unless a source is refused so, without a place and a tree.
func refused(t *testing.T, src string, code api.Errno) {
	t.Helper()
	if tree, spot := Parse(src); spot != (api.Spot{Code: code}) || len(tree) != 0 {
		t.Errorf("Parse(%.200q): %d nodes, %v; want %d", src, len(tree), spot, code)
	}
}

// hasTree fails unless a source has just these nodes.
func hasTree(t *testing.T, src string, want ...api.Node) {
	t.Helper()
	if tree, spot := Parse(src); spot != (api.Spot{}) || !sameTree(tree, want) {
		t.Errorf("Parse(%q): %v, %v; want %v", src, tree, spot, want)
	}
}

// hasBody fails unless the statements of main, of the kinds that Kids tells, have these nodes; the first one is the node 1.
func hasBody(t *testing.T, statements string, want ...api.Node) {
	t.Helper()
	last := len(want)
	all := append([]api.Node{{Kind: api.NResult}}, want...)
	all = append(all, api.Node{Kind: api.NBlock, Kids: []int{last}}, api.Node{Kind: api.NFunc, Text: "main", Kids: []int{0, last + 1}}, api.Node{Kind: api.NFile, Kids: []int{last + 2}})
	hasTree(t, body(statements), all...)
}

// P4.1, P4.2
func TestFiles(t *testing.T) {
	for _, src := range []string{"", "\n", ";", ";;;\n;", "// nothing"} {
		hasTree(t, src, api.Node{Kind: api.NFile})
	}
	result, block := api.Node{Kind: api.NResult}, api.Node{Kind: api.NBlock}
	for _, src := range []string{"func a() {}; func b() {}", "func a() {}\nfunc b() {}\n", ";func a() {};;\n\n;func b() {};", "func a(\n) {;;}\nfunc b() {\n}"} {
		hasTree(t, src, result, block, api.Node{Kind: api.NFunc, Text: "a", Kids: []int{0, 1}},
			result, block, api.Node{Kind: api.NFunc, Text: "b", Kids: []int{3, 4}}, api.Node{Kind: api.NFile, Kids: []int{2, 5}})
	}
	for _, src := range []string{"func a() {} func b() {}", "func", "func a", "func a()", "func a() {", "func a() }", "a", "a() {}", "func () {}", "func if() {}", "func 1() {}",
		"func a() {} ; x", "var a int", "{}", "func a() {}}", "func a() \n {}", "func a\n() {}", "func a() {} {}", "func a() ; {}", "func \"a\"() {}", "func a() {} , func b() {}", "func func() {}", "func a() {}()"} {
		refused(t, src, api.ErrForm)
	}
}

// P4.1, P4.2
func TestHeads(t *testing.T) {
	hasTree(t, "func f(a int, b func(int, []int) func(), c *int) (r any) {}",
		api.Node{Kind: api.NParam, Text: "a", Type: "int"}, api.Node{Kind: api.NParam, Text: "b", Type: "func(int,[]int)func()"}, api.Node{Kind: api.NParam, Text: "c", Type: "*int"},
		api.Node{Kind: api.NResult, Text: "r", Type: "any"}, api.Node{Kind: api.NBlock}, api.Node{Kind: api.NFunc, Text: "f", Num: 3, Kids: []int{0, 1, 2, 3, 4}}, api.Node{Kind: api.NFile, Kids: []int{5}})
	for _, c := range []struct{ written, text, told string }{
		{"", "", ""}, {"int", "", "int"}, {"bool", "", "bool"}, {"string", "", "string"}, {"any", "", "any"}, {"[ ] int", "", "[]int"}, {"* int", "", "*int"}, {"*\nint", "", "*int"},
		{"func()", "", "func()"}, {"func ( ) int", "", "func()int"}, {"func() func() func()", "", "func()func()func()"}, {"func(func(int) int, func()) []int", "", "func(func(int)int,func())[]int"}, {"func(\nint,\nint)", "", "func(int,int)"},
		{"(r int)", "r", "int"}, {"(_ func() *int)", "_", "func()*int"}, {"(\nr int)", "r", "int"},
	} {
		want := []api.Node{{Kind: api.NResult, Text: c.text, Type: c.told}, {Kind: api.NBlock}, {Kind: api.NFunc, Text: "f", Kids: []int{0, 1}}, {Kind: api.NFile, Kids: []int{2}}}
		hasTree(t, "func f() "+c.written+" {}", want...)
	}
	for _, written := range []string{"(int)", "()", "(r)", "(r int, s int)", "(r int,)", "(r int) int", "int int", "x", "nil", "[]", "[]bool", "[1]int", "[][]int", "[]*int", "*", "**int", "*bool", "*[]int", "*func()",
		"func", "func(a int)", "func(int,)", "func(,)", "func() (int)", "func() (r int)", "func() {}", "func(int,int,int,int,int)", "func() func(int,int,int,int,int)", "func(func(int,int,int,int,int))", "func f()", "int;", "int,", "1", "\"int\"", "(r int\n)", "[]\nint"} {
		refused(t, "func f() "+written+" {}", api.ErrForm)
		if written != "int;" {
			refused(t, body("var x "+written), api.ErrForm)
		}
		refused(t, "func f(a "+written+") {}", api.ErrForm)
	}
	for _, params := range []string{",", "a", "a int,", ",a int", "a int b int", "a, b int", "int", "a int,, b int", "a int; b int", "if int", "a int\n", "(a int)", "a", "1 int", "a (int)", "a nil"} {
		refused(t, "func f("+params+") {}", api.ErrForm)
		refused(t, body("x = func("+params+") {}"), api.ErrForm)
	}
}

// P4.1, P4.2: each type, as a part of a function's.
func TestFunctionTypes(t *testing.T) {
	plain := []string{"int", "bool", "string", "any", "[]int", "*int", "func()"}
	for _, param := range plain {
		for _, result := range append(plain, "") {
			want := "func(" + param + ",int)" + result
			hasTree(t, "func f(a func("+param+", int) "+result+") {}", api.Node{Kind: api.NParam, Text: "a", Type: want}, api.Node{Kind: api.NResult}, api.Node{Kind: api.NBlock},
				api.Node{Kind: api.NFunc, Text: "f", Num: 1, Kids: []int{0, 1, 2}}, api.Node{Kind: api.NFile, Kids: []int{3}})
			hasBody(t, "var a func("+param+", int) "+result, api.Node{Kind: api.NVar, Text: "a", Type: want})
		}
	}
}

// P4.1: just as many parameters, and just as long types, as may be.
func TestHeadLimits(t *testing.T) {
	four := "a int, b int, c int, d int"
	parses(t, "func f("+four+") {}")
	parses(t, body("x = func("+four+") {}"))
	refused(t, "func f("+four+", e int) {}", api.ErrForm)
	refused(t, body("x = func("+four+", e int) {}"), api.ErrForm)
	long := strings.Repeat("func()", 16)
	for _, at := range []string{"func f(a TYPE) {}", "func f() TYPE {}", "func f() (r TYPE) {}", "func f() { var a TYPE }", "func f() { x = func(a TYPE) TYPE {} }"} {
		parses(t, strings.ReplaceAll(at, "TYPE", long+"bool"))
		parses(t, strings.ReplaceAll(at, "TYPE", strings.Repeat(" func ( \n ) ", 16)+" \t bool "))
		refused(t, strings.ReplaceAll(at, "TYPE", long+"[]int"), api.ErrForm)
		refused(t, strings.ReplaceAll(at, "TYPE", strings.Repeat("func()", 300)), api.ErrForm)
	}
	// The function's own type may be longer: that is looked at by another chapter.
	parses(t, "func f(a "+long+", b "+long+") "+long+" {}")
}

// P4.2
func TestStatements(t *testing.T) {
	x, one := api.Node{Kind: api.NName, Text: "x"}, api.Node{Kind: api.NInt, Num: 1}
	block := api.Node{Kind: api.NBlock}
	hasBody(t, "{}", block)
	hasBody(t, ";;{;;};\n;", block)
	hasBody(t, "{{}}", block, api.Node{Kind: api.NBlock, Kids: []int{1}})
	hasBody(t, "var x func(int) any", api.Node{Kind: api.NVar, Text: "x", Type: "func(int)any"})
	hasBody(t, "x := 1", one, api.Node{Kind: api.NDefine, Text: "x", Kids: []int{1}})
	hasBody(t, "x = 1", x, one, api.Node{Kind: api.NAssign, Kids: []int{1, 2}})
	hasBody(t, "x[1] = x", x, one, api.Node{Kind: api.NIndex, Kids: []int{1, 2}}, x, api.Node{Kind: api.NAssign, Kids: []int{3, 4}})
	hasBody(t, "*x = 1", x, api.Node{Kind: api.NUnary, Text: "*", Kids: []int{1}}, one, api.Node{Kind: api.NAssign, Kids: []int{2, 3}})
	hasBody(t, "x()", x, api.Node{Kind: api.NCall, Kids: []int{1}}, api.Node{Kind: api.NCallStmt, Kids: []int{2}})
	hasBody(t, "defer x(1)", x, one, api.Node{Kind: api.NCall, Kids: []int{1, 2}}, api.Node{Kind: api.NDefer, Kids: []int{3}})
	hasBody(t, "if x {}", x, block, api.Node{Kind: api.NIf, Kids: []int{1, 2}})
	hasBody(t, "if x {} else {}", x, block, block, api.Node{Kind: api.NIf, Kids: []int{1, 2, 3}})
	hasBody(t, "if x {} else if 1 {} else {}", x, block, one, block, block, api.Node{Kind: api.NIf, Kids: []int{3, 4, 5}}, api.Node{Kind: api.NIf, Kids: []int{1, 2, 6}})
	hasBody(t, "for {}", block, api.Node{Kind: api.NFor, Kids: []int{1}})
	hasBody(t, "for x {}", x, block, api.Node{Kind: api.NFor, Kids: []int{1, 2}})
	hasBody(t, "for { break }", api.Node{Kind: api.NBreak}, api.Node{Kind: api.NBlock, Kids: []int{1}}, api.Node{Kind: api.NFor, Kids: []int{2}})
	hasBody(t, "continue", api.Node{Kind: api.NContinue})
	hasBody(t, "return", api.Node{Kind: api.NReturn})
	hasBody(t, "return x\n", x, api.Node{Kind: api.NReturn, Kids: []int{1}})
	hasTree(t, body("return\nx()"), api.Node{Kind: api.NResult}, api.Node{Kind: api.NReturn}, x, api.Node{Kind: api.NCall, Kids: []int{2}}, api.Node{Kind: api.NCallStmt, Kids: []int{3}},
		api.Node{Kind: api.NBlock, Kids: []int{1, 4}}, api.Node{Kind: api.NFunc, Text: "main", Kids: []int{0, 5}}, api.Node{Kind: api.NFile, Kids: []int{6}})
}

// P4.1
func TestStatementsRefused(t *testing.T) {
	for _, s := range []string{
		"1", "x", "x y", "-x()", "!x()", "*x", "*x()", "&x", "x + y", "f() + 1", "f(), g()", "x[0]", "x[1:]", "f()[0]", "func() {}", "[]int{1}", "nil", "\"a\"", "x :=", ":= 1", "x = ", "= 1", "x : = 1",
		"x := 1 y := 2", "x, y := 1, 2", "x[0] := 1", "*x := 1", "1 := 1", "x := y := 1", "x = y = z", "x := y = z", "x == y", "x + y = 1", "-x = 1", "!x = 1", "&x = 1", "1 = 1", "f() = 1", "x[1:2] = 1", "x[:] = 1", "func() {} = 1", "*x + 1 = 1", "if = 1",
		"var", "var x", "var x y", "var x int = 1", "var x, y int", "var (x int)", "var 1 int", "var x int int",
		"if", "if {}", "if x", "if x; {}", "if x {} {}", "if x {} else", "if x {} else x()", "if x {} else for {}", "if x {}; else {}", "if x {}\nelse {}", "if x {} else {} else {}", "if x := 1; x {}", "if x = 1 {}", "else {}", "if x {} else if {}",
		"for", "for x", "for {} {}", "for ;; {}", "for x := 1 {}", "for x; {}", "for x {} else {}", "for x y {}",
		"break x", "continue 1", "return 1, 2", "return x y", "return :=", "return return", "break break", "defer", "defer x", "defer x[0]", "defer f()[0]", "defer f() + 1", "defer -f()", "defer *f()", "defer {}", "defer func() {}", "defer defer f()", "defer f() = 1", "defer if x {}",
		"func f() {}", "f(", "f)", "{", "}", "(", "f(1,)", "f(,)", "f(,1)", "f(1 2)", "f(1;2)", "f(1\n)", "f(int)", "x = int", "x = if", "f(x := 1)", "f(x = 1)", "f(return)", "x = ()", "x = (1", "x = 1)", "x = (1, 2)", "x = (1;)", "x++", "x += 1",
	} {
		refused(t, body(s), api.ErrForm)
		sameParse(t, body(s))
	}
	// A } or { too many may be right for another reason: these are looked at as they stand.
	for _, s := range []string{"{", "}", "{}}", "{{}", "}{"} {
		refused(t, body(s), api.ErrForm)
	}
}

// P4.1: places and calls may have brackets within them, but not around them.
func TestPlacesAndCalls(t *testing.T) {
	for _, s := range []string{"(f)(1)", "((f))()", "f()()", "f[0]()", "f[1:]()", "(f + g)()", "(-f)()", "(&f)()", "1()", "nil()", "\"a\"()", "true(false)", "func() {}()", "func(a int) int { return a }(1)", "[]int{1}()", "func() {}()()",
		"defer (f)(1)", "defer func() {}()", "defer f[0]()", "defer (*f)()", "defer f()()"} {
		parses(t, body(s))
		sameParse(t, body(s))
	}
	for _, s := range []string{"(x)[0] = 1", "f()[0] = 1", "x[0][1] = 1", "x[1:][0] = 1", "(x + y)[0] = 1", "(*x)[0] = 1", "[]int{1}[0] = 1", "\"a\"[0] = 1", "1[1] = 1", "func() {}[0] = 1", "x[[]int{1}[0]] = 1",
		"*x = 1", "**x = 1", "*-x = 1", "*!x = 1", "*&x = 1", "*(x) = 1", "*(x + y) = 1", "*f() = 1", "*x[0] = 1", "*x[1:] = 1", "*(*x) = 1", "*1 = 1", "*func() {} = 1"} {
		parses(t, body(s))
		sameParse(t, body(s))
	}
	for _, s := range []string{"(f())", "((f()))", "(f)", "(f(1))[1:]", "defer (f())", "defer (f)", "(x) = 1", "((x)) = 1", "(x[0]) = 1", "(*x) = 1", "(x) := 1", "x() = 1", "(x)(1) = 1", "- *x = 1", "*x[0] := 1", "(x)[1:] = 1", "*(x) + 1 = 2"} {
		refused(t, body(s), api.ErrForm)
		sameParse(t, body(s))
	}
}

// told is an expression with brackets around each node of it that has kids.
func told(tree []api.Node, at int) string {
	n := tree[at]
	var kids []string
	for _, kid := range n.Kids {
		kids = append(kids, told(tree, kid))
	}
	switch n.Kind {
	case api.NName:
		return n.Text
	case api.NUnary:
		return "<" + n.Text + kids[0] + ">"
	case api.NBinary:
		return "<" + kids[0] + n.Text + kids[1] + ">"
	case api.NCall:
		return "<" + kids[0] + "(" + strings.Join(kids[1:], ",") + ")>"
	case api.NIndex:
		return "<" + kids[0] + "[" + kids[1] + "]>"
	case api.NSlice:
		return "<" + kids[0] + "[" + kids[1] + ":" + kids[2] + "]>"
	case api.NList:
		return "<{" + strings.Join(kids, ",") + "}>"
	case api.NNone:
		return "."
	}
	return "?"
}

// P4.1
func TestHowExpressionsBind(t *testing.T) {
	for src, want := range map[string]string{
		"a+b*c": "<a+<b*c>>", "a*b+c": "<<a*b>+c>", "a-b-c": "<<a-b>-c>", "a-(b-c)": "<a-<b-c>>", "(a)": "a", "((a+b))": "<a+b>", "a||b&&c==d+e*f": "<a||<b&&<c==<d+<e*f>>>>>", "a*b+c==d&&e||f": "<<<<<a*b>+c>==d>&&e>||f>",
		"a==b==c": "<<a==b>==c>", "a<b>c": "<<a<b>>c>", "a|b^c+d": "<<<a|b>^c>+d>", "a&b<<c/d": "<<<a&b><<c>/d>", "a||b||c": "<<a||b>||c>", "a|b&c": "<a|<b&c>>", "a<<b+c": "<<a<<b>+c>",
		"-a+b": "<<-a>+b>", "-a*b": "<<-a>*b>", "a- -b": "<a-<-b>>", "a--b": "<a-<-b>>", "!a&&b": "<<!a>&&b>", "--a": "<-<-a>>", "!-*a": "<!<-<*a>>>", "-(a+b)": "<-<a+b>>", "a& &b": "<a&<&b>>", "&a&b": "<<&a>&b>", "*&a": "<*<&a>>", "a**b": "<a*<*b>>", "&a==&b": "<<&a>==<&b>>",
		"-a[b]": "<-<a[b]>>", "(-a)[b]": "<<-a>[b]>", "*a(b)": "<*<a(b)>>", "(*a)(b)": "<<*a>(b)>", "(&a)[b]": "<<&a>[b]>", "a(b)(c,d)[e]": "<<<a(b)>(c,d)>[e]>", "a()": "<a()>", "a[b+c]": "<a[<b+c>]>",
		"a[:]": "<a[.:.]>", "a[b:]": "<a[b:.]>", "a[:c]": "<a[.:c]>", "a[b:c]": "<a[b:c]>", "a[b+c:d][e:]": "<<a[<b+c>:d]>[e:.]>", "[]int{}": "<{}>", "[]int{a,b+c}[d]": "<<{a,<b+c>}>[d]>", "[ ] int {\na,\nb}": "<{a,b}>",
	} {
		tree, spot := Parse(body("x := " + src))
		if spot != (api.Spot{}) {
			t.Errorf("Parse of %q: %v", src, spot)
		} else if got := told(tree, len(tree)-5); got != want {
			t.Errorf("%q: %s; want %s", src, got, want)
		}
	}
	for _, src := range []string{"&a[b]", "&a(b)", "&(a)", "&&a", "&1", "&-a", "& &a", "&a b", "&a[:]", "+a", "^a", "/a", "a+", "a+/b", "a b", "a 1", "a!b", "a!", "a=b", "a:b", "a,b", "a[b", "a[]", "a[,]", "a[b,c]", "a[b:c:d]", "a[::]", "a[b;c]", "a[b]]",
		"[]int", "[]int(a)", "[]int{a,}", "[]int{,}", "[]int{a;b}", "[]int{a\n}", "[]bool{}", "[1]int{a}", "[]", "[a]", "int", "int(a)", "any", "func", "func()", "func() int", "func f() {}", "func(int) {}", "func(a int) (int) {}", "var", "a := b", "a{}", "a\n+b", "(a\n)", "if", "else", "a == ", "== a"} {
		refused(t, body("x := "+src), api.ErrForm)
		sameParse(t, body("x := "+src))
	}
}

// P4.1: each pair of signs.
func TestSignsBind(t *testing.T) {
	for _, one := range signs() {
		for _, other := range signs() {
			src := body("x := a " + one + " b " + other + " c")
			want := "<<a" + one + "b>" + other + "c>"
			if binds(other) > binds(one) {
				want = "<a" + one + "<b" + other + "c>>"
			}
			tree, _ := Parse(src)
			if got := told(tree, len(tree)-5); got != want {
				t.Errorf("%q: %s; want %s", src, got, want)
			}
		}
	}
}

// P4.2
func TestSingleParts(t *testing.T) {
	for src, want := range map[string]api.Node{
		"0": {Kind: api.NInt}, "9223372036854775807": {Kind: api.NInt, Num: 1<<63 - 1}, "true": {Kind: api.NBool, Num: 1}, "false": {Kind: api.NBool}, "nil": {Kind: api.NNil}, "len": {Kind: api.NName, Text: "len"},
		`""`: {Kind: api.NText}, `"a\n\t\"\\("`: {Kind: api.NText, Text: "a\n\t\"\\("}, `"` + strings.Repeat(`\"`, 200) + `"`: {Kind: api.NText, Text: strings.Repeat(`"`, 200)},
	} {
		hasBody(t, "x := (("+src+"))", want, api.Node{Kind: api.NDefine, Text: "x", Kids: []int{1}})
	}
	hasBody(t, "x := func(a int) (r int) { return }", api.Node{Kind: api.NParam, Text: "a", Type: "int"}, api.Node{Kind: api.NResult, Text: "r", Type: "int"}, api.Node{Kind: api.NReturn}, api.Node{Kind: api.NBlock, Kids: []int{3}},
		api.Node{Kind: api.NLit, Num: 1, Kids: []int{1, 2, 4}}, api.Node{Kind: api.NDefine, Text: "x", Kids: []int{5}})
	hasBody(t, "x := func() []int {}", api.Node{Kind: api.NResult, Type: "[]int"}, api.Node{Kind: api.NBlock}, api.Node{Kind: api.NLit, Kids: []int{1, 2}}, api.Node{Kind: api.NDefine, Text: "x", Kids: []int{3}})
}

// P4.3: errors of tokens come ahead of all others, with their places; others have none.
func TestSpots(t *testing.T) {
	deep := strings.Repeat("(", 41)
	for src, want := range map[string]api.Spot{
		"func main() {\n #":                              {Code: api.ErrByte, Line: 2, Col: 2},
		deep + "\n1a":                                    {Code: api.ErrNumber, Line: 2, Col: 1},
		"x y z \"":                                       {Code: api.ErrText, Line: 1, Col: 7},
		"func abcdefghijklmnopq() {}":                    {Code: api.ErrName, Line: 1, Col: 6},
		strings.Repeat(";", 2001):                        {Code: api.ErrFull, Line: 1, Col: 2001},
		strings.Repeat(" ", 8001):                        {Code: api.ErrLong},
		strings.Repeat("(", 2001):                        {Code: api.ErrFull, Line: 1, Col: 2001},
		deep:                                             {Code: api.ErrDepth},
		"x y z " + deep:                                  {Code: api.ErrDepth},
		"}}}" + deep:                                     {Code: api.ErrDepth},
		deep[1:] + "[":                                   {Code: api.ErrDepth},
		deep[1:] + "{" + strings.Repeat(")", 41):         {Code: api.ErrDepth},
		strings.Repeat("([{", 13) + "[[":                 {Code: api.ErrDepth},
		strings.Repeat("[", 20) + "]" + deep[:22]:        {Code: api.ErrDepth},
		deep[1:]:                                         {Code: api.ErrForm},
		strings.Repeat("[", 20) + "}" + deep[:21]:        {Code: api.ErrForm},
		deep[1:] + strings.Repeat("(]", 0) + ")(":        {Code: api.ErrForm},
		strings.Repeat(")", 50) + deep[1:]:               {Code: api.ErrForm},
		strings.Repeat("()[]{}", 300):                    {Code: api.ErrForm},
		"\"" + deep + "\"" + deep[1:]:                    {Code: api.ErrForm},
		"//" + deep + "\n" + deep[1:]:                    {Code: api.ErrForm},
		body("x = " + strings.Repeat("(", 39) + "1"):     {Code: api.ErrForm},
		body("x = 1" + strings.Repeat(")", 60) + "(((("): {Code: api.ErrForm},
	} {
		if tree, spot := Parse(src); spot != want || len(tree) != 0 {
			t.Errorf("Parse(%.80q): %d nodes, %v; want %v", src, len(tree), spot, want)
		}
	}
	nest := func(n int, open, inside, close string) string {
		return body(strings.Repeat(open, n) + inside + strings.Repeat(close, n))
	}
	for _, c := range [][3]string{{"{", "", "}"}, {"f(", "1", ")"}, {"if x {", "", "}"}, {"for {", "x = []int{}[0]", "}"}} {
		inside := len(c[1]) / 5 // the brackets of the list
		parses(t, nest(39-min(1, inside), c[0], c[1], c[2]))
		refused(t, nest(40, c[0], c[1], c[2]), api.ErrDepth)
	}
	parses(t, body("x = "+strings.Repeat("a[", 39)+"1"+strings.Repeat("]", 39)))
	refused(t, body("x = "+strings.Repeat("a[", 40)+"1"+strings.Repeat("]", 40)), api.ErrDepth)
}

// P4.2, P4.4: what stands deep without brackets.
func TestLongChains(t *testing.T) {
	for src, nodes := range map[string]int{
		body("x = " + strings.Repeat("-", 1900) + "1"):                                      1900 + 7,
		body(strings.Repeat("*", 1900) + "x = 1"):                                           1900 + 7,
		body("x = 1" + strings.Repeat("+1", 900)):                                           1800 + 7,
		body("x" + strings.Repeat("()", 900)):                                               900 + 6,
		body("x = y" + strings.Repeat("[:]", 600)):                                          1800 + 7,
		body("if x {}" + strings.Repeat("else if x {}", 380)):                               381*3 + 4,
		strings.Repeat("func f(){};", 280):                                                  280*3 + 1,
		strings.Repeat("func f(){};", 285):                                                  285*3 + 1,
		strings.Repeat(";", 2000):                                                           1,
		body(strings.Repeat("break;", 990)):                                                 990 + 4,
		body("x = " + strings.Repeat("func() int { return ", 39) + strings.Repeat("}", 39)): 39*4 + 6,
	} {
		tree, spot := Parse(src)
		if spot != (api.Spot{}) || len(tree) != nodes || !Good(tree) {
			t.Errorf("Parse(%.40q): %d nodes, %v, %v", src, len(tree), spot, Good(tree))
		}
	}
}

// everyList hands on each list of just so many words, with blanks between.
func everyList(words []string, size int, found func(string)) {
	if size == 0 {
		found("")
		return
	}
	for _, w := range words {
		everyList(words, size-1, func(rest string) { found(w + " " + rest) })
	}
}

// P4.1 to P4.3: all short lists of some tokens, against the grammar.
func TestEveryShortList(t *testing.T) {
	for _, c := range []struct {
		before, after, words string
		size                 int
	}{
		{"", "", "func f ( ) { } ; int", 5},
		{"func f", "", "( ) { } ; int a ,", 5},
		{"func f() {", "}", "x = := ( ) [ ] * & ; return defer", 4},
		{"func f() {", "}", "x 1 if else for { } ; break var int func", 4},
		{"func f() { x =", "}", "x - & * ( ) [ : ] + , =", 4},
		{"func f() { x = [", "}", "] int { } , x ( )", 5},
		{"func f() { x = func(", "}", ") int { } ( [ ] * func", 4},
		{"func f() { x(", ") }", "x , ( ) 1 - & [ ]", 4},
		{"func f() { *", "= 1 }", "x ( ) [ ] * & = 1", 4},
		{"func f() { var a", "}", "func ( ) int [ ] * ,", 4},
		{"func f() { var a func(", "}", "func ( ) int , any", 5},
	} {
		t.Run(c.before+" "+c.words, func(t *testing.T) {
			t.Parallel()
			right := 0
			for size := range c.size + 1 {
				everyList(strings.Fields(c.words), size, func(list string) {
					if sameParse(t, c.before+" "+list+c.after) {
						right++
					}
				})
			}
			if right == 0 {
				t.Error("none is right")
			}
		})
	}
}

// P4.1 to P4.4: sources by chance, whole and with a token more, less or changed.
func TestChangedSources(t *testing.T) {
	m := maker{rand.New(rand.NewSource(4))}
	words := strings.Fields("func var if else for break continue return defer true false nil int bool string any + - * / & && | || == = := ( ) { } [ ] , : ! ; x f 1 \"a\"")
	right := 0
	for range 1500 {
		whole := m.file()
		src, _ := source(whole)
		if tree, spot := Parse(src); spot != (api.Spot{}) || !sameTree(tree, lay(whole)) {
			t.Fatalf("Parse(%q): %v, %v", src, tree, spot)
		}
		tokens, _ := scan.Tokens(src)
		var texts []string
		for _, tok := range tokens {
			texts = append(texts, tok.Text)
		}
		if len(texts) == 0 || len(texts) > 300 {
			continue
		}
		sameParse(t, strings.Join(texts, " "))
		for range 4 {
			at := m.Intn(len(texts))
			other := pick(m, slices.Insert(slices.Clone(texts), at, pick(m, words...)), slices.Delete(slices.Clone(texts), at, at+1), slices.Replace(slices.Clone(texts), at, at+1, pick(m, words...)))
			if sameParse(t, strings.Join(other, " ")) {
				right++
			}
		}
	}
	if right < 100 {
		t.Errorf("only %d changed sources were right", right)
	}
}

// P4.2: an answer's lists share no memory, spare room neither.
func TestKidsStandApart(t *testing.T) {
	src := "func f(a int) { x(1, 2)[3] = []int{5, 6, 7} }; func g() { if a { b() } else { c() } }"
	tree, _ := Parse(src)
	want, _ := Parse(src)
	for i := range tree {
		for j := range tree {
			if i != j {
				room := tree[j].Kids[:cap(tree[j].Kids)]
				for k := range room {
					room[k] = -1
				}
			}
		}
		if !slices.Equal(tree[i].Kids, want[i].Kids) {
			t.Errorf("the kids of %d are shared", i)
		}
		tree, _ = Parse(src)
	}
}

// P4.1 to P4.5
func FuzzParse(f *testing.F) {
	for _, src := range []string{"", "func main() { x := 1+2*3 }", body("if x {} else if *y { (f)(1, a[2:]) }"), body("defer func(a int) (r int) {}(&x)"), "func f(a func(int) any) []int { return []int{1} }", "}{)(", body("(x) = 1")} {
		f.Add(src)
	}
	f.Fuzz(func(t *testing.T, src string) {
		tree, spot := Parse(src)
		if spot != (api.Spot{}) {
			if len(tree) != 0 {
				t.Fatalf("Parse(%q): %v beside %v", src, tree, spot)
			}
			return
		}
		text, e := Print(tree)
		if !Good(tree) || e != api.OK && e != api.ErrLong {
			t.Fatalf("Parse(%q) is not well-made, or Print refuses it: %d", src, e)
		}
		if again, spot := Parse(text); e == api.OK && (spot.Code == api.OK || spot.Code == api.ErrForm) && !sameTree(again, tree) {
			t.Fatalf("%q is printed as %q: %v", src, text, spot)
		}
	})
}
