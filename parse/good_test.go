package parse

import (
	"math/rand"
	"reflect"
	"slices"
	"strings"
	"testing"

	"panicroad/api"
)

// copied is a tree that shares nothing with another one.
func copied(tree []api.Node) []api.Node {
	tree = slices.Clone(tree)
	for i := range tree {
		tree[i].Kids = slices.Clone(tree[i].Kids)
	}
	return tree
}

// breaks is a tree of a function with so many statements; 4 nodes are not theirs.
func breaks(name string, count int) []api.Node {
	block := made(api.Node{Kind: api.NBlock})
	for range count {
		block.kids = append(block.kids, made(api.Node{Kind: api.NBreak}))
	}
	return lay(made(api.Node{Kind: api.NFile}, made(api.Node{Kind: api.NFunc, Text: name}, made(api.Node{Kind: api.NResult}), block)))
}

// P4.4
func TestGoodLimits(t *testing.T) {
	if Good(nil) || Good([]api.Node{}) {
		t.Error("no nodes are a tree")
	}
	if !Good([]api.Node{{Kind: api.NFile}}) {
		t.Error("a file without functions is no tree")
	}
	for count, want := range map[int]bool{0: true, 3995: true, 3996: true, 3997: false, 5000: false} {
		if got := Good(breaks("main", count)); got != want {
			t.Errorf("%d nodes: %v", count+4, got)
		}
	}
	for params := range 8 {
		for _, kind := range []int{api.NFunc, api.NLit} {
			s := made(api.Node{Kind: kind, Num: params})
			for range params {
				s.kids = append(s.kids, made(api.Node{Kind: api.NParam, Text: "a", Type: "int"}))
			}
			s.kids = append(s.kids, made(api.Node{Kind: api.NResult}), made(api.Node{Kind: api.NBlock}))
			if kind == api.NFunc {
				s.Text = "f"
			} else {
				s = inBlock(made(api.Node{Kind: api.NReturn}, s))
			}
			if got := Good(lay(made(api.Node{Kind: api.NFile}, s))); got != (params <= 4) {
				t.Errorf("%d parameters: %v", params, got)
			}
		}
	}
	// Deeper than brackets can be nested in a source, but still a tree.
	deep := made(api.Node{Kind: api.NName, Text: "f"})
	for range 1000 {
		deep = made(api.Node{Kind: api.NCall}, made(api.Node{Kind: api.NNil}), deep)
	}
	if !Good(lay(made(api.Node{Kind: api.NFile}, inBlock(made(api.Node{Kind: api.NCallStmt}, deep))))) {
		t.Error("a deep tree is refused")
	}
}

// inBlock is a function that has just these statements.
func inBlock(statements ...*shape) *shape {
	return made(api.Node{Kind: api.NFunc, Text: "f"}, made(api.Node{Kind: api.NResult}), made(api.Node{Kind: api.NBlock}, statements...))
}

// placed are trees in which a shape stands at different places.
func placed(s *shape) [][]api.Node {
	var trees [][]api.Node
	file := func(kids ...*shape) { trees = append(trees, lay(made(api.Node{Kind: api.NFile}, kids...))) }
	x := made(api.Node{Kind: api.NName, Text: "x"})
	trees = append(trees, lay(s))
	file(s)
	file(inBlock(s))
	file(inBlock(made(api.Node{Kind: api.NDefine, Text: "x"}, s)))
	file(inBlock(made(api.Node{Kind: api.NAssign}, s, x)))
	file(inBlock(made(api.Node{Kind: api.NDefer}, s)))
	file(inBlock(made(api.Node{Kind: api.NReturn}, made(api.Node{Kind: api.NSlice}, x, s, x))))
	file(inBlock(made(api.Node{Kind: api.NReturn}, made(api.Node{Kind: api.NUnary, Text: "&"}, s))))
	file(made(api.Node{Kind: api.NFunc, Text: "f", Num: 1}, s, made(api.Node{Kind: api.NResult}), made(api.Node{Kind: api.NBlock})))
	file(made(api.Node{Kind: api.NFunc, Text: "f"}, s, made(api.Node{Kind: api.NBlock})))
	file(made(api.Node{Kind: api.NFunc, Text: "f"}, made(api.Node{Kind: api.NResult}), s))
	return trees
}

// sameGood fails unless Good answers whether a source has the tree, and is that answer.
func sameGood(t *testing.T, tree []api.Node) bool {
	t.Helper()
	want := expectGood(tree)
	if got := Good(tree); got != want {
		t.Fatalf("Good(%v): %v", tree, got)
	}
	if _, e := Print(tree); (e == api.OK) != want || !want && e != api.ErrForm {
		t.Fatalf("Print(%v): %d", tree, e)
	}
	return want
}

// examples are one right shape of each kind, and wrong ones of other kinds.
func examples() []*shape {
	x, block, result := made(api.Node{Kind: api.NName, Text: "x"}), made(api.Node{Kind: api.NBlock}), made(api.Node{Kind: api.NResult})
	call := made(api.Node{Kind: api.NCall}, x)
	return []*shape{
		x, block, result, call,
		made(api.Node{Kind: api.NFile}), inBlock(), made(api.Node{Kind: api.NParam, Text: "a", Type: "int"}), made(api.Node{Kind: api.NVar, Text: "a", Type: "int"}),
		made(api.Node{Kind: api.NDefine, Text: "a"}, x), made(api.Node{Kind: api.NAssign}, x, x), made(api.Node{Kind: api.NCallStmt}, call), made(api.Node{Kind: api.NIf}, x, block), made(api.Node{Kind: api.NFor}, block),
		made(api.Node{Kind: api.NBreak}), made(api.Node{Kind: api.NContinue}), made(api.Node{Kind: api.NReturn}), made(api.Node{Kind: api.NDefer}, call),
		made(api.Node{Kind: api.NInt}), made(api.Node{Kind: api.NText}), made(api.Node{Kind: api.NBool}), made(api.Node{Kind: api.NNil}), made(api.Node{Kind: api.NUnary, Text: "-"}, x), made(api.Node{Kind: api.NUnary, Text: "*"}, x), made(api.Node{Kind: api.NBinary, Text: "+"}, x, x),
		made(api.Node{Kind: api.NIndex}, x, x), made(api.Node{Kind: api.NSlice}, x, x, x), made(api.Node{Kind: api.NNone}), made(api.Node{Kind: api.NList}), made(api.Node{Kind: api.NLit}, result, block),
		made(api.Node{}), made(api.Node{Kind: 16}), made(api.Node{Kind: 20}), made(api.Node{Kind: 34}), made(api.Node{Kind: -1}),
	}
}

// P4.4: each kind with each few kids, at each place.
func TestEveryFewKids(t *testing.T) {
	t.Parallel()
	right, all := 0, examples()
	try := func(s *shape, kids ...*shape) {
		for _, tree := range placed(made(s.Node, kids...)) {
			if sameGood(t, tree) {
				right++
			}
		}
	}
	for _, s := range all {
		try(s)
		for _, a := range all {
			try(s, a)
			for _, b := range all {
				try(s, a, b)
			}
		}
	}
	some := slices.DeleteFunc(slices.Clone(all), func(s *shape) bool {
		return !slices.Contains([]int{api.NName, api.NBlock, api.NResult, api.NParam, api.NIf, api.NNone, api.NCall, api.NReturn}, s.Kind)
	})
	for _, s := range all {
		for i := range len(some) * len(some) * len(some) {
			try(s, some[i%len(some)], some[i/len(some)%len(some)], some[i/len(some)/len(some)])
		}
	}
	if right < 500 {
		t.Errorf("only %d are well-made", right)
	}
}

// P4.4: each field of each kind.
func TestEveryField(t *testing.T) {
	right := 0
	for _, s := range append(examples(), made(api.Node{Kind: api.NUnary, Text: "&"}, made(api.Node{Kind: api.NName, Text: "x"}))) {
		try := func(n api.Node) {
			for _, tree := range placed(made(n, s.kids...)) {
				if sameGood(t, tree) {
					right++
				}
			}
		}
		for _, text := range []string{"", "a", "_", "A9", "abcdefghijklmnop", "abcdefghijklmnopq", "if", "int", "nil", "1", "1a", "a b", " a", "a ", "a\n", "a//", "-", "!", "*", "&", "+", "&&", "||", "=", ":=", "==", "!=", "<", "<=", ">", ">=", "<<", ">>", "/", "%", "|", "^", "(", ";", "- -", "\"a\"", "\x00", "\xff", "é", "a\tb", strings.Repeat("a", 200), strings.Repeat("a", 201), strings.Repeat("\"", 200)} {
			for _, typed := range []string{"", "int", "func()", "x"} {
				n := s.Node
				n.Text, n.Type = text, typed
				try(n)
			}
		}
		for _, typed := range []string{"nil", "int ", " int", "[]int", "[ ]int", "func() int", "func(int, int)", "func(int,int)any", "func(int,int,int,int,int)", strings.Repeat("func()", 16) + "bool", strings.Repeat("func()", 16) + "[]int", "(r int)", "int{}", "int;"} {
			n := s.Node
			n.Type = typed
			try(n)
		}
		for _, num := range []int{-1 << 63, -2, -1, 0, 1, 2, 3, 4, 5, 1 << 32, 1<<63 - 1} {
			n := s.Node
			n.Num = num
			try(n)
		}
	}
	if right < 200 {
		t.Errorf("only %d are well-made", right)
	}
}

// P4.4: what is assigned to, and what has its address taken.
func TestGoodPlaces(t *testing.T) {
	for _, s := range examples() {
		place := s.Kind == api.NName || s.Kind == api.NIndex || s.Kind == api.NUnary && s.Text == "*"
		tree := lay(made(api.Node{Kind: api.NFile}, inBlock(made(api.Node{Kind: api.NAssign}, s, made(api.Node{Kind: api.NNil})))))
		if got := Good(tree); got != place {
			t.Errorf("%v = nil: %v", s.Node, got)
		}
		tree = lay(made(api.Node{Kind: api.NFile}, inBlock(made(api.Node{Kind: api.NReturn}, made(api.Node{Kind: api.NUnary, Text: "&"}, s)))))
		if got := Good(tree); got != (s.Kind == api.NName) {
			t.Errorf("& of %v: %v", s.Node, got)
		}
	}
}

// changed is a tree with something else at one place.
func (m maker) changed(tree []api.Node) []api.Node {
	tree = copied(tree)
	at := m.Intn(len(tree))
	n := &tree[at]
	switch m.Intn(9) {
	case 0:
		n.Kind = m.Intn(36) - 1
	case 1:
		n.Text = pick(m, "", "a", "if", "-", "*", "&", "+", "a b", "\x00")
	case 2:
		n.Type = pick(m, "", "int", "func(int,int)", "int ", "nil")
	case 3:
		n.Num += pick(m, -1, 1, 2, -1<<63)
	case 4:
		n.Kids = append(n.Kids, pick(m, at-1, at, at+1, 0, -1, len(tree), 1<<62, -1<<63, m.Intn(len(tree))))
	case 5:
		n.Kids = n.Kids[:max(0, len(n.Kids)-1)]
	case 6:
		if len(n.Kids) > 0 {
			n.Kids[m.Intn(len(n.Kids))] += pick(m, -1, 1)
		}
	case 7:
		other := m.Intn(len(tree))
		tree[at], tree[other] = tree[other], tree[at]
	case 8:
		tree = pick(m, slices.Delete(tree, at, at+1), slices.Insert(tree, at, tree[at]))
	}
	return tree
}

// P4.4
func TestGoodOfTreesByChance(t *testing.T) {
	m := maker{rand.New(rand.NewSource(44))}
	right := 0
	for range 4000 {
		tree := lay(m.file())
		if !sameGood(t, tree) {
			t.Fatalf("a right tree is refused: %v", tree)
		}
		for range 5 {
			other := m.changed(tree)
			if len(other) > 0 && sameGood(t, other) {
				right++
			}
		}
	}
	if right < 1000 {
		t.Errorf("only %d changed trees were well-made", right)
	}
}

// P4.4: trees that are laid wrongly, and such that lead nowhere or round.
func TestGoodLayout(t *testing.T) {
	result, block, name := api.Node{Kind: api.NResult}, api.Node{Kind: api.NBlock}, "f"
	fn := func(kids ...int) api.Node { return api.Node{Kind: api.NFunc, Text: name, Kids: kids} }
	file := func(kids ...int) api.Node { return api.Node{Kind: api.NFile, Kids: kids} }
	if !Good([]api.Node{result, block, fn(0, 1), file(2)}) {
		t.Error("a right tree is refused")
	}
	for i, tree := range [][]api.Node{
		{result}, {file(0)}, {file(-1)}, {file(1)}, {file(1 << 62)}, {file(), file()}, {file(), file(0)},
		{block, result, fn(1, 0), file(2)}, {result, block, fn(0, 1), file()}, {result, block, fn(0, 1), file(2, 2)}, {result, block, fn(0, 1), file(1)}, {result, block, file(2), fn(0, 1)},
		{result, block, fn(0, 0), file(2)}, {result, block, fn(1, 1), file(2)}, {result, block, fn(0, 1, 2), file(2)}, {result, block, fn(0, 1), file(3)}, {result, block, fn(0, 2), file(2)}, {result, block, fn(3, 1), file(2)},
		{file(1), result, block, fn(1, 2)}, {result, result, block, fn(0, 2), file(3)}, {result, result, block, fn(1, 2), file(3)}, {block, result, block, fn(1, 2), file(3)}, {result, block, fn(0, 1), file(2), file(3)},
		{result, block, fn(0, 1), result, block, fn(3, 4), file(5, 2)}, {result, block, fn(0, 1), result, block, fn(3, 4), file(5)}, {result, result, block, block, fn(0, 2), fn(1, 3), file(4, 5)}, {result, block, fn(0, 1), fn(0, 1), file(2, 3)},
	} {
		if Good(tree) {
			t.Errorf("tree %d is well-made: %v", i, tree)
		}
		if text, e := Print(tree); text != "" || e != api.ErrForm {
			t.Errorf("Print of tree %d: %q, %d", i, text, e)
		}
	}
}

// P4.4, P4.5: a tree that is handed in stays as it is, its spare room too.
func TestTreesAreNotChanged(t *testing.T) {
	m := maker{rand.New(rand.NewSource(5))}
	for range 200 {
		tree := lay(m.file())
		for i := range tree {
			tree[i].Kids = append(make([]int, 0, len(tree[i].Kids)+3), tree[i].Kids...)
		}
		want := copied(tree)
		Good(tree)
		Print(tree)
		for i := range tree {
			room := tree[i].Kids[len(tree[i].Kids):cap(tree[i].Kids)]
			if !slices.Equal(tree[i].Kids, want[i].Kids) || !reflect.DeepEqual(room, make([]int, 3)) {
				t.Fatalf("the kids of %d: %v, behind them %v", i, tree[i].Kids, room)
			}
		}
		if !sameTree(tree, want) {
			t.Fatalf("%v became %v", want, tree)
		}
	}
}
