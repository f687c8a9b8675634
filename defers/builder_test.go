package defers

import (
	"math/rand"
	"slices"

	"panicroad/api"
)

// copied is a tree that shares nothing with another one.
func copied(tree []api.Node) []api.Node {
	tree = slices.Clone(tree)
	for i := range tree {
		tree[i].Kids = slices.Clone(tree[i].Kids)
	}
	return tree
}

// expectPlans seeks, for each function, down from its node; it enters no other function.
func expectPlans(tree []api.Node) []api.Plan {
	var all []api.Plan
	for node, n := range tree {
		if n.Kind != 2 && n.Kind != 33 {
			continue
		}
		p, looped := api.Plan{Node: node}, false
		var down func(at int, loop bool)
		down = func(at int, loop bool) {
			if tree[at].Kind == 33 && at != node {
				return
			}
			for _, kid := range tree[at].Kids {
				down(kid, loop || tree[at].Kind == 11)
			}
			if tree[at].Kind == 15 {
				p.Sites = append(p.Sites, at)
				looped = looped || loop
			}
		}
		down(node, false)
		p.Open = len(p.Sites) < 9 && !looped
		all = append(all, p)
	}
	return all
}

// builder lays trees by chance, and notes the plans while it lays them.
type builder struct {
	*rand.Rand
	tree  []api.Node
	plans []api.Plan
	sites []int // of the function that is being laid
	loop  int   // how many of its loops are open
	shut  bool  // whether one of its deferred calls stands in a loop
}

// lay is the place of a node that is laid behind all others.
func (b *builder) lay(n api.Node) int {
	b.tree = append(b.tree, n)
	return b.last()
}

func (b *builder) last() int { return len(b.tree) - 1 }

func (b *builder) file() {
	var kids []int
	for range b.Intn(4) {
		kids = append(kids, b.function(api.NFunc, func() int { return b.block(5) }))
	}
	b.lay(api.Node{Kind: api.NFile, Kids: kids})
}

// function lays a function of a kind, with a block that is handed in, and notes its plan.
func (b *builder) function(kind int, block func() int) int {
	outer := *b
	b.sites, b.loop, b.shut = nil, 0, false
	n := api.Node{Kind: kind, Num: b.Intn(3)}
	if kind == api.NFunc {
		n.Text = "f"
	}
	for range n.Num {
		n.Kids = append(n.Kids, b.lay(api.Node{Kind: api.NParam, Text: "a", Type: "func()"}))
	}
	n.Kids = append(n.Kids, b.lay(api.Node{Kind: api.NResult}), block())
	at := b.lay(n)
	b.plans = append(b.plans, api.Plan{Node: at, Sites: b.sites, Open: len(b.sites) <= 8 && !b.shut})
	b.sites, b.loop, b.shut = outer.sites, outer.loop, outer.shut
	return at
}

func (b *builder) block(depth int) int {
	var kids []int
	for range b.Intn(5) {
		kids = append(kids, b.statement(depth-1))
	}
	return b.lay(api.Node{Kind: api.NBlock, Kids: kids})
}

func (b *builder) statement(depth int) int {
	if depth <= 0 {
		return b.deferred(0, 2)
	}
	switch b.Intn(9) {
	case 0:
		return b.block(depth)
	case 1:
		return b.branch(depth)
	case 2:
		return b.round(depth)
	case 3:
		return b.lay(api.Node{Kind: api.NReturn, Kids: []int{b.expr(depth)}})
	case 4:
		return b.lay(api.Node{Kind: api.NDefine, Text: "x", Kids: []int{b.expr(depth)}})
	case 5:
		return b.lay(api.Node{Kind: api.NCallStmt, Kids: []int{b.call(depth, 2)}})
	case 6:
		return b.lay(api.Node{Kind: api.NBreak})
	}
	return b.deferred(depth, 2)
}

func (b *builder) branch(depth int) int {
	kids := []int{b.expr(depth), b.block(depth)}
	switch b.Intn(3) {
	case 0:
		kids = append(kids, b.block(depth))
	case 1:
		kids = append(kids, b.branch(depth-1))
	}
	return b.lay(api.Node{Kind: api.NIf, Kids: kids})
}

func (b *builder) round(depth int) int {
	b.loop++
	var kids []int
	if b.Intn(2) == 0 {
		kids = append(kids, b.expr(depth))
	}
	kids = append(kids, b.block(depth))
	b.loop--
	return b.lay(api.Node{Kind: api.NFor, Kids: kids})
}

// deferred lays a deferred call of at most so many arguments.
func (b *builder) deferred(depth, args int) int {
	at := b.lay(api.Node{Kind: api.NDefer, Kids: []int{b.call(depth, args)}})
	b.sites = append(b.sites, at)
	b.shut = b.shut || b.loop > 0
	return at
}

func (b *builder) call(depth, args int) int {
	kids := []int{b.expr(depth)}
	for range b.Intn(args + 1) {
		kids = append(kids, b.expr(depth-1))
	}
	return b.lay(api.Node{Kind: api.NCall, Kids: kids})
}

func (b *builder) expr(depth int) int {
	if depth <= 0 {
		return b.lay(api.Node{Kind: api.NName, Text: "x"})
	}
	switch b.Intn(5) {
	case 0:
		return b.lay(api.Node{Kind: api.NUnary, Text: "-", Kids: []int{b.expr(depth - 1)}})
	case 1:
		return b.call(depth-1, 2)
	case 2, 3:
		return b.function(api.NLit, func() int { return b.block(depth - 1) })
	}
	return b.expr(0)
}

// wrapped lays a file of one function without parameters, with the statements that are laid by what is handed in.
func (b *builder) wrapped(statements func() []int) {
	fn := b.lay(api.Node{Kind: api.NResult})
	block := b.lay(api.Node{Kind: api.NBlock, Kids: statements()})
	fn = b.lay(api.Node{Kind: api.NFunc, Text: "f", Kids: []int{fn, block}})
	b.lay(api.Node{Kind: api.NFile, Kids: []int{fn}})
}

// nested lays a loop with a deferred call of a function without a name, and in that the same once more, so often: 7 nodes each.
func (b *builder) nested(depth int) []int {
	if depth == 0 {
		return nil
	}
	result := b.lay(api.Node{Kind: api.NResult})
	body := b.lay(api.Node{Kind: api.NBlock, Kids: b.nested(depth - 1)})
	lit := b.lay(api.Node{Kind: api.NLit, Kids: []int{result, body}})
	call := b.lay(api.Node{Kind: api.NCall, Kids: []int{lit}})
	kept := b.lay(api.Node{Kind: api.NDefer, Kids: []int{call}})
	round := b.lay(api.Node{Kind: api.NBlock, Kids: []int{kept}})
	return []int{b.lay(api.Node{Kind: api.NFor, Kids: []int{round}})}
}

// changed is the tree with something else at one place.
func (b *builder) changed() []api.Node {
	tree := copied(b.tree)
	at := b.Intn(len(tree))
	n := &tree[at]
	switch b.Intn(6) {
	case 0:
		n.Kind = b.Intn(35)
	case 1:
		n.Kind = []int{api.NDefer, api.NCallStmt, api.NFor, api.NIf, api.NBlock}[b.Intn(5)]
	case 2:
		n.Kids = append(n.Kids, []int{at - 1, at, at + 1, 0, -1, len(tree), greatest, least}[b.Intn(8)])
	case 3:
		n.Kids = n.Kids[:max(0, len(n.Kids)-1)]
	case 4:
		n.Num++
	case 5:
		tree = slices.Delete(tree, at, at+1)
	}
	return tree
}
