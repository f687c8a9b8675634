package walk

import (
	"fmt"
	"slices"
	"strings"
	"testing"

	"panicroad/api"
)

// roomy is a tree with spare room behind its nodes and behind each list of kids.
func roomy(tree []api.Node) []api.Node {
	room := make([]api.Node, len(tree)+3)
	copy(room, tree)
	for i := range room {
		kids := append(slices.Clone(room[i].Kids), 91, 92, 93)
		room[i].Kids = kids[:len(kids)-3]
	}
	return room[:len(tree)]
}

// dump tells all of a tree, spare room too.
func dump(tree []api.Node) string {
	var b strings.Builder
	for _, n := range tree[:cap(tree)] {
		fmt.Fprintf(&b, "%v %v\n", n, n.Kids[:cap(n.Kids)])
	}
	return b.String()
}

// What holds everywhere: what is handed in stays as it is, spare room too.
func TestTreeIsNotChanged(t *testing.T) {
	for _, statements := range append(walks(), "l := []int{1, 2}; l[0] = 3; defer list(l[1:]); a := 1; p := &a; *p = 2; println(\"ab\"[:1], append(l, a))") {
		tree := roomy(treeOf(t, body(statements)))
		before := dump(tree)
		Tree(tree, 300)
		if after := dump(tree); after != before {
			t.Errorf("%s: the tree is changed:\n%s\nnot\n%s", statements, after, before)
		}
	}
}

// What holds everywhere: an answer shares nothing with another one, and hangs on the arguments alone.
func TestAnswersShareNothing(t *testing.T) {
	for _, statements := range walks() {
		src := body(statements)
		want := fmt.Sprintf("%+v", ran(t, src, 300))
		first, second := ran(t, src, 300), ran(t, src, 300)
		for i := range first.Starts[:cap(first.Starts)] {
			first.Starts[:cap(first.Starts)][i] = api.Start{Frame: -7}
		}
		if got := fmt.Sprintf("%+v", second); got != want {
			t.Errorf("%s: two answers share memory: %s, not %s", statements, got, want)
		}
		if got := fmt.Sprintf("%+v", ran(t, src, 300)); got != want {
			t.Errorf("%s: %s, then %s", statements, want, got)
		}
	}
}

// What holds everywhere: a tree that was walked may be changed, the outcome stays.
func TestTreeIsNotKept(t *testing.T) {
	tree := treeOf(t, body("defer say(1); println(\"text\"); panic(\"more\")"))
	o, _ := Tree(tree, 300)
	want := fmt.Sprintf("%+v", o)
	clear(tree)
	if got := fmt.Sprintf("%+v", o); got != want {
		t.Errorf("%s, not %s", got, want)
	}
}

// nested is a tree of n parts within one another; the innermost calls the function again.
func nested(n int) []api.Node {
	tree := []api.Node{
		{Kind: api.NResult, Type: "int"},
		{Kind: api.NName, Text: "f"},
		{Kind: api.NCall, Kids: []int{1}},
	}
	lay := func(n api.Node) { tree = append(tree, n) }
	last := func() int { return len(tree) - 1 }
	for range n {
		lay(api.Node{Kind: api.NUnary, Text: "-", Kids: []int{last()}})
	}
	lay(api.Node{Kind: api.NReturn, Kids: []int{last()}})
	lay(api.Node{Kind: api.NBlock, Kids: []int{last()}})
	lay(api.Node{Kind: api.NFunc, Text: "f", Kids: []int{0, last()}})
	f := last()
	lay(api.Node{Kind: api.NResult})
	lay(api.Node{Kind: api.NName, Text: "f"})
	lay(api.Node{Kind: api.NCall, Kids: []int{last()}})
	lay(api.Node{Kind: api.NCallStmt, Kids: []int{last()}})
	lay(api.Node{Kind: api.NBlock, Kids: []int{last()}})
	lay(api.Node{Kind: api.NFunc, Text: "main", Kids: []int{f + 1, last()}})
	lay(api.Node{Kind: api.NFile, Kids: []int{f, last()}})
	return tree
}

// What holds everywhere: every call ends and none panics, also of trees that are nested as deep as may be.
func TestDeepTrees(t *testing.T) {
	tree := nested(2*api.MaxTokens - 13)
	if len(tree) != 2*api.MaxTokens {
		t.Fatalf("%d nodes", len(tree))
	}
	o, blame := Tree(tree, api.MaxFuel)
	if blame != (api.Blame{}) || o.End != api.EndDepth || o.Steps != 2+2*(api.MaxDepth-1)+1 {
		t.Errorf("%v, %+v", blame, o)
	}
}

// What holds everywhere: every call ends, also of functions within one another, all of which share variables.
func TestDeepFunctions(t *testing.T) {
	const n = api.MaxNest/2 - 1
	src := "func main() { a := 1\n" + strings.Repeat("func() { a = a + 1; b := a; b = b + a\n", n) + strings.Repeat("}()\n", n) + "println(a) }"
	if o := ran(t, src, api.MaxFuel); o.Out != fmt.Sprintln(1+n) {
		t.Errorf("%+v", o)
	}
}
