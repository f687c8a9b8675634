package check

import (
	"slices"
	"testing"

	"panicroad/api"
	"panicroad/parse"
)

// treeOf is the tree of a source that has one.
func treeOf(t *testing.T, src string) []api.Node {
	t.Helper()
	tree, spot := parse.Parse(src)
	if spot != (api.Spot{}) {
		t.Fatalf("Parse(%q): %v", src, spot)
	}
	return tree
}

// nodeOf is the node of a kind, by its place among those of that kind; -1: there is none.
func nodeOf(tree []api.Node, kind, place int) int {
	for at, n := range tree {
		if n.Kind == kind {
			if place == 0 {
				return at
			}
			place--
		}
	}
	return -1
}

// isEmpty is whether nothing is told.
func isEmpty(i api.Info) bool {
	return len(i.Types)+len(i.Refs)+len(i.VarTypes)+len(i.Boxed)+len(i.Owner) == 0
}

// body is a source whose function main has these statements, with functions to call.
func body(statements string) string {
	return "func main() {" + statements + "}\nfunc none() {}\nfunc one(a int) int { return a }\nfunc two(s string, x any) string { return s }"
}

// right fails unless a source is, and is its tree and what is known of it.
func right(t *testing.T, src string) ([]api.Node, api.Info) {
	t.Helper()
	tree := treeOf(t, src)
	info, blame := Check(tree)
	if blame != (api.Blame{}) {
		t.Fatalf("Check(%q): %v", src, blame)
	}
	if len(info.Types) != len(tree) || len(info.Refs) != len(tree) || len(info.Boxed) != len(info.VarTypes) || len(info.Owner) != len(info.VarTypes) {
		t.Fatalf("Check(%q): %v", src, info)
	}
	return tree, info
}

// blamed fails unless a source is blamed so, at the node of that kind that has that place among them.
func blamed(t *testing.T, src string, code api.Errno, kind, place int) {
	t.Helper()
	tree := treeOf(t, src)
	want := api.Blame{Code: code, Node: nodeOf(tree, kind, place)}
	if want.Node < 0 {
		t.Fatalf("%q has no node %d of the kind %d", src, place, kind)
	}
	if info, blame := Check(tree); blame != want || !isEmpty(info) {
		t.Errorf("Check(%q): %v, %v; want %v", src, blame, info, want)
	}
}

// wrong is a source, or what stands in one, with what it is blamed for.
type wrong struct {
	src         string
	code        api.Errno
	kind, place int
}

func allBlamed(t *testing.T, around func(string) string, list ...wrong) {
	t.Helper()
	for _, w := range list {
		blamed(t, around(w.src), w.code, w.kind, w.place)
	}
}

func asItIs(src string) string { return src }

// P5.1
func TestForm(t *testing.T) {
	whole := treeOf(t, body("x := 1; x = 2"))
	bad := [][]api.Node{nil, {}, {{}}, {{Kind: api.NFunc, Text: "main"}}, whole[:len(whole)-1], whole[1:], append(slices.Clone(whole), whole...)}
	for kind := -1; kind < 40; kind++ {
		for _, kid := range []int{0, -1, 1, 1 << 62, -1 << 63} {
			bad = append(bad, []api.Node{{Kind: kind, Kids: []int{kid}}})
		}
	}
	for at := range whole {
		number, text := slices.Clone(whole), slices.Clone(whole)
		number[at].Num = -1 << 63
		text[at].Text = "if"
		bad = append(bad, number, text)
	}
	for _, tree := range bad {
		if info, blame := Check(tree); blame != (api.Blame{Code: api.ErrForm}) || !isEmpty(info) {
			t.Errorf("Check(%v): %v, %v", tree, info, blame)
		}
	}
}

// P5.1
func TestFunctions(t *testing.T) {
	allBlamed(t, asItIs,
		wrong{"func f() {}; func f() {}; func main() {}", api.ErrTwice, api.NFunc, 1},
		wrong{"func f() {}; func g() {}; func f(a int) {}; func g() {}", api.ErrTwice, api.NFunc, 2},
		wrong{"func f() { x() }; func main() {}; func main() {}", api.ErrTwice, api.NFunc, 2},
		wrong{"func f() { x() }; func main(a int) {}; func len() {}", api.ErrTwice, api.NFunc, 2},
		wrong{"", api.ErrMain, api.NFile, 0},
		wrong{"func f() {}", api.ErrMain, api.NFile, 0},
		wrong{"func f() { main := 1 }", api.ErrMain, api.NFile, 0},
		wrong{"func Main() {}", api.ErrMain, api.NFile, 0},
		wrong{"func f() { x() }; func main(a int) {}", api.ErrMain, api.NFile, 0},
		wrong{"func main() int { x() }", api.ErrMain, api.NFile, 0},
		wrong{"func main() (r int) {}", api.ErrMain, api.NFile, 0},
		wrong{"func main() func() { return nil }", api.ErrMain, api.NFile, 0},
		wrong{"func main(a " + longest + ", b int) {}", api.ErrMain, api.NFile, 0},
		wrong{"func f() { x() }; func main() { y() }", api.ErrName, api.NName, 0},
		wrong{"func main() { f(); y() }; func f() { x() }", api.ErrName, api.NName, 1},
		wrong{"func f(a int, a int) { x() }; func main() {}", api.ErrTwice, api.NParam, 1},
		wrong{"func f(a int) (a int) { x() }; func main() {}", api.ErrTwice, api.NResult, 0},
	)
	for _, name := range builtIns() {
		blamed(t, "func main() {}; func "+name+"() {}", api.ErrTwice, api.NFunc, 1)
	}
	right(t, "func main() {}")
	right(t, "func f() {}; func main() { f(); g(); main() }; func g() { f(); g() }")
}

// P5.1: kids ahead of their parents, from the left to the right.
func TestOrder(t *testing.T) {
	allBlamed(t, body,
		wrong{"println(a + b)", api.ErrName, api.NName, 1},
		wrong{"println(1 + \"\" + b)", api.ErrType, api.NBinary, 0},
		wrong{"println(1 + b + (1 + true))", api.ErrName, api.NName, 1},
		wrong{"println(-\"\" + b)", api.ErrType, api.NUnary, 0},
		wrong{"one(true, b)", api.ErrName, api.NName, 1},
		wrong{"nobody(b)", api.ErrName, api.NName, 0},
		wrong{"1(b)", api.ErrName, api.NName, 0},
		wrong{"len(b, c)", api.ErrName, api.NName, 1},
		wrong{"a = b", api.ErrName, api.NName, 0},
		wrong{"none = b", api.ErrName, api.NName, 1},
		wrong{"\"\"[0] = b", api.ErrName, api.NName, 0},
		wrong{"\"\"[true] = b", api.ErrType, api.NIndex, 0},
		wrong{"if 1 { x() } else { y() }", api.ErrType, api.NIf, 0},
		wrong{"if true { x() } else if 1 { y() }", api.ErrName, api.NName, 0},
		wrong{"if true {} else if 1 { y() }", api.ErrType, api.NIf, 0},
		wrong{"if true {} else { y() }; x()", api.ErrName, api.NName, 0},
		wrong{"for 1 { x() }", api.ErrType, api.NFor, 0},
		wrong{"for a { x() }", api.ErrName, api.NName, 0},
		wrong{"return b", api.ErrName, api.NName, 0},
		wrong{"defer println(b)", api.ErrName, api.NName, 1},
		wrong{"defer len()", api.ErrArgs, api.NCall, 0},
		wrong{"defer exit(true)", api.ErrType, api.NCall, 0},
		wrong{"f := func(a int, a int) { x() }(b)", api.ErrTwice, api.NParam, 1},
		wrong{"println(func() { x() }, b)", api.ErrName, api.NName, 1},
		wrong{"x := []int{a, true}[b]", api.ErrName, api.NName, 0},
		wrong{"x := []int{1, true}[b]", api.ErrType, api.NList, 0},
		wrong{"x := \"\"[true:b]", api.ErrName, api.NName, 0},
		wrong{"x := 1[:b]", api.ErrName, api.NName, 0},
	)
}

// P5.5: what the value of := is asked for comes ahead of what its name is asked for.
func TestOrderOfDefine(t *testing.T) {
	allBlamed(t, body,
		wrong{"len := b", api.ErrName, api.NName, 0},
		wrong{"len := nil", api.ErrType, api.NDefine, 0},
		wrong{"x := 1; x := none()", api.ErrType, api.NDefine, 1},
		wrong{"x := 1; x := 1", api.ErrTwice, api.NDefine, 1},
		wrong{"x := func() { x := 1; x := 1 }", api.ErrTwice, api.NDefine, 1},
	)
}

// A tree that is handed in stays as it is, and the answers share nothing.
func TestNothingShared(t *testing.T) {
	tree := treeOf(t, body("x := 1; f := func(a int) (r int) { p := &x; return *p + a }; println(f(x))"))
	before := slices.Clone(tree)
	for i := range before {
		before[i].Kids = slices.Clone(before[i].Kids)
	}
	first, _ := Check(tree)
	second, _ := Check(tree)
	for _, l := range [][]string{first.Types, first.VarTypes} {
		clear(l[:cap(l)])
	}
	for _, l := range [][]int{first.Refs, first.Owner} {
		clear(l[:cap(l)])
	}
	clear(first.Boxed[:cap(first.Boxed)])
	if want, _ := expect(before); !sameInfo(second, want) {
		t.Errorf("%v; want %v", second, want)
	}
	for i, n := range before {
		if m := tree[i]; m.Kind != n.Kind || m.Text != n.Text || m.Type != n.Type || m.Num != n.Num || !slices.Equal(m.Kids, n.Kids) {
			t.Errorf("node %d: %v, was %v", i, m, n)
		}
	}
}
