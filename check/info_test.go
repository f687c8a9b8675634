package check

import (
	"slices"
	"strings"
	"testing"

	"panicroad/api"
	"panicroad/word"
)

// told are the nodes that have a type or refer to something, one on a line: kind, text, type, reference.
func told(tree []api.Node, info api.Info) []string {
	var l []string
	for at, n := range tree {
		if info.Types[at] != "" || info.Refs[at] != api.RefNone {
			l = append(l, strings.Join([]string{word.Text(n.Kind), n.Text, info.Types[at], word.Text(info.Refs[at])}, " "))
		}
	}
	return l
}

// P5.6: types and references, node by node.
func TestTypesAndRefs(t *testing.T) {
	src := "func f(a int) string { return g(nil)[a:] }\n" +
		"func g(x any) (r string) { var b bool; if b { r = \"t\" }; return }\n" +
		"func main() { l := []int{1}; l[0] = len(f(2)); p := func(q *int) { *q = -1 }; n := 3; p(&n); println(l == nil, !true, recover()); defer p(nil) }"
	tree, info := right(t, src)
	want := []string{
		"3 a  0", "4   1", "25 g func(any)string 10001", "24  nil -1", "28  string -1", "25 a int 0", "30  string -1",
		"3 x  2", "4 r  3", "6 b  4", "25 b bool 4", "25 r string 3", "22 t string -1",
		"21  int -1", "32  []int -1", "7 l  5",
		"25 l []int 5", "21  int -1", "29  int -1", "25 len  20000", "25 f func(int)string 10000", "21  int -1", "28  string -1", "28  int -1",
		"3 q  6", "25 q *int 6", "26 * int -1", "21  int -1", "26 - int -1", "33  func(*int) -1", "7 p  7",
		"21  int -1", "7 n  8", "25 p func(*int) 7", "25 n int 8", "26 & *int -1",
		"25 println  20002", "25 l []int 5", "24  nil -1", "27 == bool -1", "23  bool -1", "26 ! bool -1", "25 recover  20004", "28  any -1",
		"25 p func(*int) 7", "24  nil -1",
	}
	if got := told(tree, info); !slices.Equal(got, want) {
		t.Errorf("%q\nwant %q", got, want)
	}
	if wanted := []string{"int", "string", "any", "string", "bool", "[]int", "*int", "func(*int)", "int"}; !slices.Equal(info.VarTypes, wanted) {
		t.Errorf("%v", info.VarTypes)
	}
	f, g, main, lit := nodeOf(tree, api.NFunc, 0), nodeOf(tree, api.NFunc, 1), nodeOf(tree, api.NFunc, 2), nodeOf(tree, api.NLit, 0)
	if !slices.Equal(info.Owner, []int{f, f, g, g, g, main, lit, main, main}) {
		t.Errorf("%v", info.Owner)
	}
	if !slices.Equal(info.Boxed, []bool{false, false, false, false, false, false, false, false, true}) {
		t.Errorf("%v", info.Boxed)
	}
}

// P5.6: built-ins by number, functions by number.
func TestNumbers(t *testing.T) {
	tree, info := right(t, "func f() {}; func main() { len(\"\"); append([]int{}, 1); println(); panic(1); recover(); exit(1); toint(recover()); isint(recover()); f(); main(); g() }; func g() {}")
	var refs []int
	for at, n := range tree {
		if n.Kind == api.NName {
			refs = append(refs, info.Refs[at])
		}
	}
	want := []int{api.RefBuilt, api.RefBuilt + 1, api.RefBuilt + 2, api.RefBuilt + 3, api.RefBuilt + 4, api.RefBuilt + 5, api.RefBuilt + 6, api.RefBuilt + 4, api.RefBuilt + 7, api.RefBuilt + 4, api.RefFunc, api.RefFunc + 1, api.RefFunc + 2}
	if !slices.Equal(refs, want) {
		t.Errorf("%v", refs)
	}
	if len(info.VarTypes) != 0 {
		t.Errorf("%v", info)
	}
}

// P5.2, P5.6: a function without a name has its variables numbered where it stands.
func TestNumbersWithin(t *testing.T) {
	tree, info := right(t, "func main() { a := func(b int) int { c := 1; return c }(2); d := func() { func() any { return nil }() } }")
	byName := map[string]int{}
	for at, n := range tree {
		if n.Kind == api.NParam || n.Kind == api.NDefine {
			byName[n.Text] = info.Refs[at]
		}
	}
	for name, want := range map[string]int{"b": 0, "c": 2, "a": 3, "d": 5} {
		if byName[name] != want {
			t.Errorf("%s is %d", name, byName[name])
		}
	}
	outer, inner, last := nodeOf(tree, api.NLit, 0), nodeOf(tree, api.NLit, 1), nodeOf(tree, api.NFunc, 0)
	if !slices.Equal(info.Owner, []int{outer, outer, outer, last, inner, last}) || !slices.Equal(info.VarTypes, []string{"int", "int", "int", "int", "any", "func()"}) {
		t.Errorf("%v", info)
	}
}

// P5.6: which variables stand in a box, by name.
func TestBoxed(t *testing.T) {
	for src, want := range map[string]string{
		"a := 1; b := a; b = a":                            "",
		"a := 1; p := &a":                                  "a",
		"a := 1; { a := 2; p := &a }; a = 3":               "a2",
		"a := 1; f := func() { println(a) }":               "a",
		"a := 1; f := func() { a = 2 }":                    "a",
		"a := 1; f := func() { a := 2; a = 3 }":            "",
		"a := 1; f := func() { p := &a }":                  "a",
		"a := 1; f := func() { a := a; println(a) }":       "a",
		"a := 1; f := func() { f := func() { a = 2 } }":    "a",
		"f := func(a int) { f := func() { a = 2 } }":       "a",
		"f := func() (a int) { f := func() { a = 2 } }":    "a",
		"f := func(a int) (b int) { b = a; return a }":     "",
		"f := func(a int) (b int) { p := &b; return *p }":  "b",
		"f := none; g := func() { f() }":                   "f",
		"f := none; f(); defer f()":                        "",
		"f := none; defer func() { f() }()":                "f",
		"var a []int; f := func() { a[0] = 1 }":            "a",
		"var a *int; *a = 1; f := func() { *a = 1 }":       "a",
		"a := 1; f := func() { none(); println(1) }":       "",
		"a := 1; f := func(a int) { a = 2 }; f(a)":         "",
		"a := 1; for { b := a; f := func() { b = 1 } }":    "b",
		"if true { a := 1; p := &a } else { a := 2 }":      "a",
		"a := 1; f := func() {}; g := func() { f() }":      "f",
		"a := 1; p := &a; q := &a; f := func() { a = 1 }":  "a",
		"a := 1; println(func(b int) int { return b }(a))": "",
	} {
		tree, info := right(t, body(src))
		if got := boxedNames(tree, info); got != want {
			t.Errorf("%s: %q, want %q", src, got, want)
		}
	}
}

// boxedNames are the names of the variables in boxes; the second one of a name has a 2 behind it.
func boxedNames(tree []api.Node, info api.Info) string {
	var l []string
	seen := map[string]int{}
	for at, n := range tree {
		if n.Kind == api.NName || info.Refs[at] < 0 {
			continue
		}
		seen[n.Text]++
		if info.Boxed[info.Refs[at]] {
			l = append(l, n.Text+strings.Repeat("2", seen[n.Text]-1))
		}
	}
	return strings.Join(l, " ")
}

// signsTree is a tree of so many nodes, nearly all of them signs within one another.
func signsTree(count int) []api.Node {
	tree := []api.Node{{Kind: api.NResult}, {Kind: api.NInt}}
	for len(tree) < count-4 {
		tree = append(tree, api.Node{Kind: api.NUnary, Text: "-", Kids: []int{len(tree) - 1}})
	}
	value := len(tree) - 1
	return append(tree, api.Node{Kind: api.NDefine, Text: "x", Kids: []int{value}}, api.Node{Kind: api.NBlock, Kids: []int{value + 1}},
		api.Node{Kind: api.NFunc, Text: "main", Kids: []int{0, value + 2}}, api.Node{Kind: api.NFile, Kids: []int{value + 3}})
}

// blocksTree is a tree of so many nodes, nearly all of them blocks within one another.
func blocksTree(count int) []api.Node {
	tree := []api.Node{{Kind: api.NResult}, {Kind: api.NVar, Text: "x", Type: "int"}}
	for len(tree) < count-2 {
		tree = append(tree, api.Node{Kind: api.NBlock, Kids: []int{len(tree) - 1}})
	}
	block := len(tree) - 1
	return append(tree, api.Node{Kind: api.NFunc, Text: "main", Kids: []int{0, block}}, api.Node{Kind: api.NFile, Kids: []int{block + 1}})
}

// P5.1, P5.6: trees as deep and as long as may be.
func TestGreatTrees(t *testing.T) {
	for _, great := range []func(int) []api.Node{signsTree, blocksTree} {
		for _, count := range []int{10, 2 * api.MaxTokens} {
			if tree := great(count); len(tree) != count || sameCheck(t, "a great tree", tree) != api.OK {
				t.Errorf("%d nodes of %d", len(tree), count)
			}
		}
		if _, blame := Check(great(2*api.MaxTokens + 1)); blame != (api.Blame{Code: api.ErrForm}) {
			t.Errorf("%v", blame)
		}
	}
}
