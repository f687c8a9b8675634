package walk

import (
	"slices"
	"strconv"
	"strings"
	"testing"

	"panicroad/api"
	"panicroad/parse"
	"panicroad/report"
)

// treeOf is the tree of a source that has one.
func treeOf(t *testing.T, src string) []api.Node {
	t.Helper()
	tree, spot := parse.Parse(src)
	if spot != (api.Spot{}) {
		t.Fatalf("Parse(%q): %v", src, spot)
	}
	return tree
}

// ran is what comes of a source that is right; Run and Tree say the same of it.
func ran(t *testing.T, src string, fuel int) api.Outcome {
	t.Helper()
	o, wrong := Run(src, fuel)
	ofTree, blame := Tree(treeOf(t, src), fuel)
	if wrong != (api.Wrong{}) || blame != (api.Blame{}) {
		t.Fatalf("%s: %v, %v", src, wrong, blame)
	}
	if !sameOutcome(o, ofTree) {
		t.Fatalf("%s:\nRun:  %+v\nTree: %+v", src, o, ofTree)
	}
	return o
}

// helpers are functions that the programs of the tables may call. say tells where it is called, and gives what it is given.
const helpers = `
func say(n int) int { println("say", n); return n }
func yes(b bool) bool { println("yes", b); return b }
func text(s string) string { println("text", s); return s }
func list(l []int) []int { println("list", l); return l }
func point(p *int) *int { println("point", p); return p }
func fun(f func(int, int) int) func(int, int) int { println("fun", f); return f }
func some(x any) any { return x }
func tell(x any) { println("tell", x, recover()) }
func nothing() {}
`

// body is a source whose main has these statements.
func body(statements string) string { return "func main() {\n" + statements + "\n}\n" + helpers }

// lines fails unless what is told of a run of these statements is so.
func lines(t *testing.T, statements, want string) {
	t.Helper()
	o := ran(t, body(statements), 2000)
	if got, e := report.Lines(o); got != want || e != api.OK {
		t.Errorf("%s:\n%s\nnot\n%s", statements, got, want)
	}
}

type program struct{ statements, want string }

func all(t *testing.T, l []program) {
	t.Helper()
	for _, p := range l {
		lines(t, p.statements, p.want)
	}
}

// crash is what is told of a run that printed something and then met a run-time error.
func crash(out, told string) string { return out + "panic: runtime error: " + told + "\ncrash 2\n" }

const nilCrash = "invalid memory address or nil pointer dereference"

// P11.1
func TestWrongFuel(t *testing.T) {
	right := treeOf(t, "func main() {}")
	for _, fuel := range []int{0, -1, -1 << 63, api.MaxFuel + 1, 1<<63 - 1} {
		for _, src := range []string{"func main() {}", "#", "func", "", "func main() { x = 1 }"} {
			if o, wrong := Run(src, fuel); wrong != (api.Wrong{Code: api.ErrRange}) || !sameOutcome(o, api.Outcome{}) {
				t.Errorf("Run(%q, %d): %v, %v", src, fuel, o, wrong)
			}
		}
		for _, tree := range [][]api.Node{nil, right, right[1:]} {
			if o, blame := Tree(tree, fuel); blame != (api.Blame{Code: api.ErrRange}) || !sameOutcome(o, api.Outcome{}) {
				t.Errorf("Tree(%v, %d): %v, %v", tree, fuel, o, blame)
			}
		}
	}
	for _, fuel := range []int{1, api.MaxFuel} {
		if o := ran(t, "func main() {}", fuel); o.End != api.EndDone || o.Steps != 1 {
			t.Errorf("fuel %d: %v", fuel, o)
		}
	}
}

// P11.1
func TestWrongSources(t *testing.T) {
	for _, x := range []struct {
		src  string
		want api.Wrong
	}{
		{"#", api.Wrong{Code: api.ErrByte, Line: 1, Col: 1}},
		{"func main() {\n\tx := 1a }", api.Wrong{Code: api.ErrNumber, Line: 2, Col: 7}},
		{"func main() { println(\"a) }", api.Wrong{Code: api.ErrText, Line: 1, Col: 23}},
		{"func a2345678901234567() {}", api.Wrong{Code: api.ErrName, Line: 1, Col: 6}},
		{strings.Repeat(" ", api.MaxSource+1), api.Wrong{Code: api.ErrLong}},
		{"func", api.Wrong{Code: api.ErrForm}},
		{"func main() { " + strings.Repeat("(", api.MaxNest) + " }", api.Wrong{Code: api.ErrDepth}},
		{"", api.Wrong{Code: api.ErrMain}},
		{"func f() {}", api.Wrong{Code: api.ErrMain, Node: 3}},
		{"func main() { x = 1 }", api.Wrong{Code: api.ErrName, Node: 1}},
		{"func main() { exit(1) }; func main() {}", api.Wrong{Code: api.ErrTwice, Node: 9}},
		{"func main() { println(1 + true) }", api.Wrong{Code: api.ErrType, Node: 4}},
		{"func main() { exit() }", api.Wrong{Code: api.ErrArgs, Node: 2}},
		{"func main() { break }", api.Wrong{Code: api.ErrPlace, Node: 1}},
	} {
		if o, wrong := Run(x.src, 10); wrong != x.want || !sameOutcome(o, api.Outcome{}) {
			t.Errorf("Run(%.60q): %v, %v, not %v", x.src, o, wrong, x.want)
		}
		tree, spot := parse.Parse(x.src)
		if spot != (api.Spot{}) {
			continue
		}
		if o, blame := Tree(tree, 10); blame != (api.Blame{Code: x.want.Code, Node: x.want.Node}) || !sameOutcome(o, api.Outcome{}) {
			t.Errorf("Tree(%.60q): %v, %v", x.src, o, blame)
		}
	}
}

// P11.1
func TestTreesThatAreNotWellMade(t *testing.T) {
	right := treeOf(t, "func main() { println(-1) }")
	trees := [][]api.Node{nil, {}, {{}}, right[1:], right[:len(right)-1], {{Kind: api.NFile, Kids: []int{0}}}, {{Kind: api.NFile, Kids: []int{-5}}}}
	for i := range right {
		spoiled := slices.Clone(right)
		spoiled[i].Kind = 77
		trees = append(trees, spoiled)
	}
	for _, tree := range trees {
		if o, blame := Tree(tree, 10); blame != (api.Blame{Code: api.ErrForm}) || !sameOutcome(o, api.Outcome{}) {
			t.Errorf("Tree(%v): %v, %v", tree, o, blame)
		}
	}
}

// P11.2
func TestSteps(t *testing.T) {
	for _, x := range []struct {
		statements string
		steps      int // main's is one of them
	}{
		{"", 1},
		{"{}; { {}; { {} } }", 1},
		{"var a int", 2},
		{"a := 1; a = 2", 3},
		{"println(1 + 2, -3, len(\"a\"), []int{1}[0])", 2},
		{"a := 1; p := &a; *p = 2", 4},
		{"a := []int{1}; a[0] = 2", 3},
		{"if true {}", 2},
		{"if true { println() }", 3},
		{"if true {} else { println() }", 2},
		{"if false {} else {}", 2},
		{"if false {} else { println() }", 3},
		{"if false {} else if true {}", 3},
		{"if false {} else if false {} else if true { println() }", 5},
		{"for false {}", 3},
		{"for { break }", 4},
		{"for true { break }", 4},
		{"i := 0; for i < 3 { i = i + 1 }", 1 + 1 + 1 + 4 + 3},
		{"i := 0; for i < 3 { i = i + 1; continue }", 1 + 1 + 1 + 4 + 6},
		{"i := 0; for { i = i + 1; if i == 3 { break } }", 1 + 1 + 1 + 3 + 6 + 1},
		{"return", 2},
		{"return; println()", 2},
		{"nothing()", 3},
		{"x := some(some(1)); println(x)", 1 + 1 + 4 + 1},
		{"func() {}()", 3},
		{"f := func() { println() }; f(); f()", 1 + 1 + 3 + 3},
		{"defer nothing()", 3},
		{"defer tell(some(1))", 2 + 2 + 2},
		{"for { defer nothing(); break }", 6},
		{"defer nothing(); defer nothing(); panic(1)", 6},
		{"defer func() { recover() }(); panic(1)", 5},
		{"defer nothing(); exit(1)", 3},
		{"println(1 / 0)", 2},
		{"println(1 / 0, some(1))", 2},
		{"println(some(1), 1 / 0, some(1))", 4},
		{"var f func(); f()", 3},
		{"var f func(); defer f()", 3},
	} {
		if o := ran(t, body(x.statements), 100); o.Steps != x.steps {
			t.Errorf("%s: %d steps, not %d", x.statements, o.Steps, x.steps)
		}
	}
}

// walks are programs of many kinds of statements, ends and deferred calls.
func walks() []string {
	return []string{
		"",
		"i := 0; for i < 3 { println(i); defer tell(i); if i == 1 { i = i + 1; continue }; i = i + 1 }",
		"defer func() { println(recover()); panic(3) }(); defer func() { panic(2) }(); defer tell(0); panic(1)",
		"f := func(n int) (r int) { defer func() { if recover() != nil { r = n; defer tell(n) } }(); return 7 / n }; println(f(2), f(0)); exit(f(1))",
		"var f func(int); f = func(n int) { defer tell(n); if n == 0 { panic(\"deep\") }; f(n - 1) }; defer func() { recover() }(); f(4)",
		"for { defer nothing(); println(1) }",
		"var f func(); f = func() { defer f(); println(2) }; f()",
		"for { println(\"0123456789\") }",
	}
}

// P11.2: with less fuel a beginning is done, with more the same.
func TestEachFuel(t *testing.T) {
	for _, statements := range walks() {
		src := body(statements)
		whole := ran(t, src, 700)
		for fuel := 1; fuel < whole.Steps; fuel++ {
			o := ran(t, src, fuel)
			if o.End != api.EndFuel || o.Steps != fuel || o.Status != 3 || o.Crash != "" {
				t.Fatalf("%s, fuel %d: %+v", statements, fuel, o)
			}
			if n := len(o.Starts); !strings.HasPrefix(whole.Out, o.Out) || n > len(whole.Starts) || !slices.Equal(o.Starts, whole.Starts[:n]) {
				t.Fatalf("%s, fuel %d: %+v, no beginning of %+v", statements, fuel, o, whole)
			}
		}
		if whole.End == api.EndFuel {
			continue
		}
		for _, fuel := range []int{whole.Steps, whole.Steps + 1, api.MaxFuel} {
			if o := ran(t, src, fuel); !sameOutcome(o, whole) {
				t.Errorf("%s, fuel %d: %+v, not %+v", statements, fuel, o, whole)
			}
		}
	}
}

// P11.2: the end comes with the step that there is no fuel for, not with what stands behind it.
func TestFuelAheadOfWhatIsDone(t *testing.T) {
	for _, x := range []struct {
		statements, out string
		fuel, starts    int
	}{
		{"println(1); println(2)", "1\n", 2, 0},
		{"for yes(true) { break }", "", 3, 0},
		{"for yes(true) { break }", "yes true\n", 6, 0},
		{"some(say(1))", "say 1\n", 5, 0},
		{"defer tell(1)", "", 2, 0},
		{"defer tell(1)", "", 3, 1},
		{"if yes(false) {} else if yes(true) {}", "yes false\n", 5, 0},
		{"defer nothing(); defer nothing(); panic(1)", "", 5, 1},
	} {
		o := ran(t, body(x.statements), x.fuel)
		if o.End != api.EndFuel || o.Steps != x.fuel || o.Out != x.out || len(o.Starts) != x.starts {
			t.Errorf("%s, fuel %d: %+v", x.statements, x.fuel, o)
		}
	}
}

// deep is a source in which main and n more activations are there at one time, and something is done in the last one.
func deep(n int, done string) string {
	return "func down(n int) { if n > 1 { down(n - 1); return }\n" + done + "}\nfunc main() { down(" + strconv.Itoa(n) + ") }\n" + helpers
}

// P11.2
func TestDepth(t *testing.T) {
	const most = api.MaxDepth - 1 // those that main may have above it
	ahead := 1 + 1 + most*2 + most - 1
	for _, x := range []struct {
		n     int
		done  string
		end   int
		steps int
	}{
		{most, "println(1)", api.EndDone, ahead + 1 + most - 1},
		{most, "nothing()", api.EndDepth, ahead + 1 + 1},
		{most + 1, "println(1)", api.EndDepth, ahead + 2},
		{most - 1, "nothing()", api.EndDone, ahead - 3 + 2 + most - 2},
		{most - 1, "some(some(some(1)))", api.EndDone, ahead - 3 + 7 + most - 2},
		{most, "defer nothing()", api.EndDepth, ahead + 1 + 1},
		{most, "defer nothing(); panic(1)", api.EndDepth, ahead + 2 + 1},
		{most, "defer nothing(); exit(1)", api.EndExit, ahead + 2},
		{most, "panic(1)", api.EndCrash, ahead + 1},
		{most - 1, "defer nothing()", api.EndDone, ahead - 3 + 2 + most - 2},
		{most - 1, "defer nothing(); panic(1)", api.EndCrash, ahead - 3 + 3},
		{most - 1, "defer func() { defer nothing() }()", api.EndDepth, ahead - 3 + 4},
	} {
		o := ran(t, deep(x.n, x.done), 1000)
		if o.End != x.end || o.Steps != x.steps {
			t.Errorf("%d, %s: end %d, %d steps, not %d, %d", x.n, x.done, o.End, o.Steps, x.end, x.steps)
		}
		if status := []int{0, 0, 2, 1, 3, 3, 3}[x.end]; o.Status != status || x.end == api.EndDepth && o.Crash != "" {
			t.Errorf("%d, %s: %+v", x.n, x.done, o)
		}
	}
}

// P11.2: a step that there is no fuel for is told ahead of too many activations; a deferred call that isn't begun is no start.
func TestDepthAndFuel(t *testing.T) {
	src := deep(api.MaxDepth-1, "defer nothing(); panic(1)")
	whole := ran(t, src, 1000)
	if whole.End != api.EndDepth || len(whole.Starts) != 0 {
		t.Fatalf("%+v", whole)
	}
	if o := ran(t, src, whole.Steps); o.End != api.EndDepth || o.Steps != whole.Steps {
		t.Errorf("%+v", o)
	}
	if o := ran(t, src, whole.Steps-1); o.End != api.EndFuel || o.Steps != whole.Steps-1 {
		t.Errorf("%+v", o)
	}
	for _, end := range []string{"nothing()", "defer nothing()"} {
		endless := "func main() { main() }"
		if end[0] == 'd' {
			endless = "func main() { defer main() }"
		}
		o := ran(t, endless, 1000)
		if o.End != api.EndDepth || o.Steps != 2*api.MaxDepth+1 {
			t.Errorf("%s: %+v", endless, o)
		}
	}
}

// P11.2: activations that are gone don't count.
func TestManyActivationsOneBehindTheOther(t *testing.T) {
	lines(t, "i := 0; for i < 100 { nothing(); func() { defer func() { recover() }(); panic(1) }(); i = i + 1 }; println(i)", "100\ndone 0\n")
}
