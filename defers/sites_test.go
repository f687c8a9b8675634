package defers

import (
	"math/rand"
	"reflect"
	"slices"
	"strings"
	"testing"

	"panicroad/api"
	"panicroad/parse"
)

// parsed is the tree of a source that must have one.
func parsed(t *testing.T, src string) []api.Node {
	t.Helper()
	tree, spot := parse.Parse(src)
	if spot != (api.Spot{}) {
		t.Fatalf("%s: %v", src, spot)
	}
	return tree
}

func samePlan(a, b api.Plan) bool {
	return a.Node == b.Node && a.Open == b.Open && slices.Equal(a.Sites, b.Sites)
}

// samePlans fails unless Plans and Sites answer these plans, and Sites refuses all other nodes.
func samePlans(t *testing.T, tree []api.Node, want []api.Plan) {
	t.Helper()
	all, e := Plans(tree)
	if e != api.OK || !slices.EqualFunc(all, want, samePlan) {
		t.Fatalf("Plans: %v, %d, not %v", all, e, want)
	}
	// Of a great tree each node would take too long.
	stride := 1 + len(tree)/60
	for node := -3; node < len(tree)+3; node++ {
		if known := node >= 0 && node < len(tree); known && !isFunction(tree[node]) && node%stride > 0 {
			continue
		}
		right, wantErr := api.Plan{}, api.ErrKind
		for _, p := range want {
			if p.Node == node {
				right, wantErr = p, api.OK
			}
		}
		if p, e := Sites(tree, node); e != wantErr || !samePlan(p, right) {
			t.Fatalf("Sites(%d): %v, %d, not %v, %d", node, p, e, right, wantErr)
		}
	}
	for _, node := range []int{least, greatest, -1 << 32, 1 << 32, 1<<32 + len(tree) - 2} {
		if p, e := Sites(tree, node); e != api.ErrKind || !samePlan(p, api.Plan{}) {
			t.Fatalf("Sites(%d): %v, %d", node, p, e)
		}
	}
}

// told is a plan by how many deferred calls it has.
type told struct {
	count int
	open  bool
}

// P8.5: which function a deferred call is of, and whether it stands in a loop of that one.
func TestPlansOfSources(t *testing.T) {
	for _, x := range []struct {
		src  string
		want []told
	}{
		{"", nil},
		{"func f() {}", []told{{0, true}}},
		{"func f() { for {} }", []told{{0, true}}},
		{"func f() { defer g() }", []told{{1, true}}},
		{"func f() { defer g(); defer g() }; func g() {}; func h() { { defer f() } }", []told{{2, true}, {0, true}, {1, true}}},
		{"func f() { if x { defer g() } else if y { defer g() } else { defer g(); { defer g() } } }", []told{{4, true}}},
		{"func f() { for { defer g() } }", []told{{1, false}}},
		{"func f() { for x { if y { { defer g() } } } }", []told{{1, false}}},
		{"func f() { if x { for { if y {} else { defer g() } } } }", []told{{1, false}}},
		{"func f() { defer g(); for { for {} }; defer g() }", []told{{2, true}}},
		{"func f() { defer g(); for {}; for { for { defer g() } } }", []told{{2, false}}},
		{"func f() { for { defer g() }; defer g() }; func g() { defer g() }", []told{{2, false}, {1, true}}},
		{"func f() { for { break; defer g() } }", []told{{1, false}}},
		{"func f() { return; defer g() }", []told{{1, true}}},
		// A literal's own are its own, in whichever part of a statement it stands.
		{"func f() { func() { defer g() }() }", []told{{1, true}, {0, true}}},
		{"func f() { defer func() {}() }", []told{{0, true}, {1, true}}},
		{"func f() { defer func() { defer g(); defer g() }() }", []told{{2, true}, {1, true}}},
		{"func f() { defer g(func() { defer g() }, func() { defer g(); defer g() }) }", []told{{1, true}, {2, true}, {1, true}}},
		{"func f() { for { func() { defer g() }() } }", []told{{1, true}, {0, true}}},
		{"func f() { for { defer func() { defer g() }() } }", []told{{1, true}, {1, false}}},
		{"func f() { func() { for { defer g() } }(); defer g() }", []told{{1, false}, {1, true}}},
		{"func f() { for func() bool { defer g(); return true }() { x = 1 } }", []told{{1, true}, {0, true}}},
		{"func f() { for func() bool { for { defer g() } }() {}; defer g() }", []told{{1, false}, {1, true}}},
		{"func f() { for { x := func() { func() { defer g() }(); defer g() } } }", []told{{1, true}, {1, true}, {0, true}}},
		{"func f() { for { func() { for { func() { defer g() }() } ; defer g() }(); defer g() } }", []told{{1, true}, {1, true}, {1, false}}},
		{"func f() { x = []int{1, func() int { defer g() }()}[func() int { for { defer g() } }() : -func() int {}()] }", []told{{1, true}, {1, false}, {0, true}, {0, true}}},
		{"func f() any { if func() bool { defer g() }() { return func() { defer g() } } }", []told{{1, true}, {1, true}, {0, true}}},
		{"func f() { *func() *int { defer g() }() = func() int { defer g(); defer g() }() }", []told{{1, true}, {2, true}, {0, true}}},
		{"func f(a int, b func(int)) (r any) { defer g() }", []told{{1, true}}},
	} {
		tree := parsed(t, x.src)
		all, e := Plans(tree)
		var got []told
		for _, p := range all {
			got = append(got, told{len(p.Sites), p.Open})
		}
		if e != api.OK || !slices.Equal(got, x.want) {
			t.Errorf("%s: %v, %d", x.src, all, e)
		}
		samePlans(t, tree, expectPlans(tree))
	}
}

// P8.5: the nodes themselves, of one tree that is told by hand.
func TestPlansTellNodes(t *testing.T) {
	tree := parsed(t, "func f() { defer g(); defer func() { defer g() }() }")
	// 0 NResult, 1 g, 2 call, 3 NDefer, 4 NResult, 5 g, 6 call, 7 NDefer, 8 block, 9 NLit, 10 call, 11 NDefer, 12 block, 13 NFunc, 14 NFile
	samePlans(t, tree, []api.Plan{{Node: 9, Sites: []int{7}, Open: true}, {Node: 13, Sites: []int{3, 11}, Open: true}})
}

// P8.5: MaxOpen just met and just passed, in a function and in one without a name.
func TestPlansAtMaxOpen(t *testing.T) {
	for count, open := range map[int]bool{0: true, 1: true, 7: true, 8: true, 9: false, 10: false, 16: false, 256: false, 300: false} {
		many := strings.Repeat("defer g();", count)
		for src, want := range map[string][]told{
			"func f() {" + many + "}":                               {{count, open}},
			"func f() { func() {" + many + "}() }":                  {{count, open}, {0, true}},
			"func f() { if x {" + many + "} else { defer g() } }":   {{count + 1, count < 8}},
			"func f() { defer func() {" + many + "}(); defer g() }": {{count, open}, {2, true}},
			"func f() { for {" + many + "} }":                       {{count, count == 0}},
			"func f() {" + many + "}; func g() { defer g() }":       {{count, open}, {1, true}},
		} {
			all, e := Plans(parsed(t, src))
			var got []told
			for _, p := range all {
				got = append(got, told{len(p.Sites), p.Open})
			}
			if e != api.OK || !slices.Equal(got, want) {
				t.Errorf("%d in %.30s: %v, %d", count, src, got, e)
			}
		}
	}
}

// P8.5: ErrForm is told ahead of ErrKind.
func TestPlansRefuseTrees(t *testing.T) {
	tree := parsed(t, "func f() { for { defer g() } }")
	last := len(tree) - 1
	changed := func(change func(tree []api.Node)) []api.Node {
		other := copied(tree)
		change(other)
		return other
	}
	for i, wrong := range [][]api.Node{
		nil, {}, {{}}, {{Kind: api.NDefer}}, {{Kind: api.NFunc}}, {{Kind: api.NLit, Kids: []int{0}}}, tree[:last], tree[1:],
		make([]api.Node, 5000),
		changed(func(l []api.Node) { l[last].Kind = api.NBlock }),
		changed(func(l []api.Node) { l[last-1].Text = "" }),
		changed(func(l []api.Node) { l[last-1].Kind = api.NLit }),
		changed(func(l []api.Node) { l[last-1].Num = 1 }),
		changed(func(l []api.Node) { l[last].Kids = nil }),
		changed(func(l []api.Node) { l[last].Kids = []int{last} }),
		changed(func(l []api.Node) { l[last].Kids = []int{-1} }),
		changed(func(l []api.Node) { l[last].Kids = []int{greatest} }),
		changed(func(l []api.Node) { l[2].Kids = []int{last} }),
		changed(func(l []api.Node) { l[3].Kids = nil }),
	} {
		if all, e := Plans(wrong); len(all) != 0 || e != api.ErrForm {
			t.Errorf("Plans of tree %d: %v, %d", i, all, e)
		}
		for _, node := range []int{least, -1, 0, 1, last - 1, last, last + 1, greatest} {
			if p, e := Sites(wrong, node); !samePlan(p, api.Plan{}) || e != api.ErrForm {
				t.Errorf("Sites of tree %d, node %d: %v, %d", i, node, p, e)
			}
		}
	}
}

// P8.5: a file without functions is a tree.
func TestPlansOfAnEmptyFile(t *testing.T) {
	samePlans(t, []api.Node{{Kind: api.NFile}}, nil)
}

// P8.5: as many nodes as a tree may have, and one more.
func TestPlansOfGreatTrees(t *testing.T) {
	for extra := range 2 {
		b := builder{Rand: rand.New(rand.NewSource(8))}
		b.wrapped(func() []int {
			for range 1332 {
				b.deferred(0, 0)
			}
			kids := slices.Clone(b.sites)
			for range extra {
				kids = append(kids, b.lay(api.Node{Kind: api.NBreak}))
			}
			return kids
		})
		if len(b.tree) != 4000+extra {
			t.Fatalf("%d nodes", len(b.tree))
		}
		if extra > 0 {
			refused(t, b.tree)
			continue
		}
		all, e := Plans(b.tree)
		if want := []api.Plan{{Node: len(b.tree) - 2, Sites: b.sites}}; e != api.OK || !slices.EqualFunc(all, want, samePlan) {
			t.Errorf("%d plans, %d", len(all), e)
		}
	}
}

// P8.5: functions within one another, as many as a tree may have.
func TestPlansOfDeepTrees(t *testing.T) {
	var b builder
	b.wrapped(func() []int { return b.nested(570) })
	all, e := Plans(b.tree)
	if e != api.OK || len(all) != 571 || !slices.EqualFunc(all, expectPlans(b.tree), samePlan) {
		t.Fatalf("%d plans, %d", len(all), e)
	}
	for i, p := range all {
		if p.Open != (i == 0) || len(p.Sites) != min(i, 1) {
			t.Errorf("plan %d: %v", i, p)
		}
	}
}

// P8.5
func TestPlansOfTreesByChance(t *testing.T) {
	m := rand.New(rand.NewSource(85))
	open, shut, right := 0, 0, 0
	for range 400 {
		b := builder{Rand: m}
		b.file()
		samePlans(t, b.tree, b.plans)
		for _, p := range b.plans {
			if p.Open {
				open++
			} else {
				shut++
			}
		}
		for range 5 {
			other := b.changed()
			if !parse.Good(other) {
				refused(t, other)
				continue
			}
			right++
			samePlans(t, other, expectPlans(other))
		}
	}
	if open < 300 || shut < 300 || right < 100 {
		t.Errorf("only %d, %d, and %d changed ones", open, shut, right)
	}
}

// refused fails unless Plans and Sites tell that a tree is not well-made.
func refused(t *testing.T, tree []api.Node) {
	t.Helper()
	if all, e := Plans(tree); len(all) != 0 || e != api.ErrForm {
		t.Fatalf("Plans(%v): %v, %d", tree, all, e)
	}
	for _, node := range []int{-1, 0, len(tree) / 2, len(tree) - 2, len(tree) - 1, len(tree)} {
		if p, e := Sites(tree, node); !samePlan(p, api.Plan{}) || e != api.ErrForm {
			t.Fatalf("Sites(%v, %d): %v, %d", tree, node, p, e)
		}
	}
}

// What holds everywhere: trees stay as they are, and plans share nothing with one another or with later ones.
func TestPlansAreNewMemory(t *testing.T) {
	tree := parsed(t, "func f() { defer g(); defer func() { defer g(); defer g() }(); defer g() }; func g() { defer f() }")
	for i := range tree {
		tree[i].Kids = append(make([]int, 0, len(tree[i].Kids)+3), tree[i].Kids...)
	}
	tree = append(make([]api.Node, 0, len(tree)+2), tree...)
	before := copied(tree)
	want, _ := Plans(tree)
	for i := range want {
		all, _ := Plans(tree)
		one, _ := Sites(tree, want[i].Node)
		for _, sites := range [][]int{all[i].Sites, one.Sites} {
			sites = sites[:cap(sites)]
			for k := range sites {
				sites[k] = 77
			}
		}
		again, e := Plans(tree)
		if e != api.OK || !reflect.DeepEqual(again, want) {
			t.Errorf("Plans, once more: %v, %d, not %v", again, e, want)
		}
		all[i] = want[i]
		if !reflect.DeepEqual(all, want) {
			t.Errorf("Sites of two plans are shared: %v", all)
		}
	}
	if !reflect.DeepEqual(copied(tree), before) || !reflect.DeepEqual(tree[len(tree):cap(tree)], make([]api.Node, 2)) {
		t.Error("the tree is changed")
	}
	for i, n := range tree {
		if room := n.Kids[len(n.Kids):cap(n.Kids)]; !slices.Equal(room, []int{0, 0, 0}) {
			t.Errorf("behind the kids of %d: %v", i, room)
		}
	}
}
