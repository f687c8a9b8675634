package heap

import (
	"math"
	"reflect"
	"testing"

	"panicroad/api"
)

// chain is a heap of blocks of 1 cell, each of which leads on to the block with the given number.
func chain(t *testing.T, next []int) *Heap {
	t.Helper()
	h := of(t, 2*len(next))
	for i := range next {
		made(t, h, 1+i%4, 1, 2*i)
	}
	for i, to := range next {
		put(t, h, 2*i, 0, ref(2*to))
	}
	return h
}

// P12.4: what is led to stays, by the roots or by one another; chains, rings, and what leads to itself.
func TestCollect(t *testing.T) {
	next := []int{1, 2, 2, 4, 3, 5, 0, 7, 6}
	for _, c := range []struct {
		roots, stay []int
	}{
		{nil, []int{}},
		{[]int{0}, []int{0, 1, 2}},
		{[]int{1}, []int{1, 2}},
		{[]int{2}, []int{2}},
		{[]int{2, 2, 2}, []int{2}},
		{[]int{3}, []int{3, 4}},
		{[]int{4}, []int{3, 4}},
		{[]int{5}, []int{5}},
		{[]int{6}, []int{0, 1, 2, 6}},
		{[]int{7}, []int{7}},
		{[]int{8}, []int{0, 1, 2, 6, 8}},
		{[]int{7, 3, 2}, []int{2, 3, 4, 7}},
		{[]int{8, 7, 6, 5, 4, 3, 2, 1, 0}, []int{0, 1, 2, 3, 4, 5, 6, 7, 8}},
	} {
		h := chain(t, next)
		var roots []api.Cell
		for _, r := range c.roots {
			roots = append(roots, ref(2*r))
		}
		want := []int{}
		for _, s := range c.stay {
			want = append(want, 2*s)
		}
		n := h.Collect(roots)
		if free := 18 - 2*len(c.stay); n != free || h.Free() != free || !reflect.DeepEqual(begun(h), want) {
			t.Errorf("%v: %d, %d free, blocks at %v; want %v", c.roots, n, h.Free(), begun(h), want)
		}
		for _, s := range c.stay {
			if got, e := h.Load(2*s, 0); got != ref(2*next[s]) || e != api.OK {
				t.Errorf("%v: the block %d has %v, %d", c.roots, s, got, e)
			}
			if shape, _, _ := h.Look(2 * s); shape != 1+s%4 {
				t.Errorf("%v: the block %d is of shape %d", c.roots, s, shape)
			}
		}
		if n := h.Collect(roots); n != 0 {
			t.Errorf("%v: again %d", c.roots, n)
		}
	}
}

// P12.4: a root leads to a block by TagRef alone, and to where it begins alone.
func TestRoots(t *testing.T) {
	fresh := func() *Heap {
		h := of(t, 9)
		made(t, h, api.ShapeList, 3, 0)
		made(t, h, api.ShapeClosure, 2, 4)
		return h
	}
	for tag := -8; tag <= 9; tag++ {
		for _, n := range edges {
			want := 7
			if tag == api.TagRef && n == 0 {
				want = 3
			}
			if tag == api.TagRef && n == 4 {
				want = 4
			}
			h := fresh()
			if got := h.Collect([]api.Cell{{Tag: tag, N: n}}); got != want || h.Free() != 2+want {
				t.Errorf("root %d %d: %d, %d free; want %d", tag, n, got, h.Free(), want)
			}
		}
	}
	for _, tag := range []int{math.MinInt, math.MaxInt, 1<<32 + api.TagRef} {
		if got := fresh().Collect([]api.Cell{{Tag: tag}, {Tag: tag, N: 4}}); got != 7 {
			t.Errorf("roots with the tag %d: %d", tag, got)
		}
	}
}

// P12.4: a cell of a block leads on in the same way, each of them, and one of a block that is not led to leads nowhere.
func TestLedOn(t *testing.T) {
	for i := range 3 {
		for tag := range 8 {
			for _, n := range edges {
				h := of(t, 14)
				made(t, h, api.ShapeBox, 1, 0)
				made(t, h, api.ShapeRecord, 3, 2)
				made(t, h, api.ShapeList, 2, 6)
				put(t, h, 6, 0, ref(0))
				put(t, h, 2, i, api.Cell{Tag: tag, N: n})
				want := []int{2}
				if tag == api.TagRef && n == 0 {
					want = []int{0, 2}
				}
				if tag == api.TagRef && n == 6 {
					want = []int{0, 2, 6}
				}
				h.Collect([]api.Cell{ref(2)})
				if !reflect.DeepEqual(begun(h), want) {
					t.Errorf("cell %d is %d %d: blocks at %v; want %v", i, tag, n, begun(h), want)
				}
			}
		}
	}
}

// P12.4, P12.5: what is let go counts with its first cell, a block without cells too, and is free for wider blocks.
func TestCollectCounts(t *testing.T) {
	h := of(t, api.MaxCells+3)
	made(t, h, api.ShapeBox, 0, 0)
	made(t, h, api.ShapeBox, 0, 1)
	made(t, h, api.ShapeList, api.MaxCells, 2)
	if h.Free() != 0 {
		t.Fatalf("%d free", h.Free())
	}
	if n := h.Collect([]api.Cell{ref(1), ref(2)}); n != 1 || h.Free() != 1 {
		t.Errorf("without cells: %d, %d free", n, h.Free())
	}
	if n := h.Collect([]api.Cell{ref(1)}); n != api.MaxCells+1 || h.Free() != api.MaxCells+2 {
		t.Errorf("the longest: %d, %d free", n, h.Free())
	}
	if n := h.Collect(nil); n != 1 || h.Free() != api.MaxCells+3 {
		t.Errorf("the last: %d, %d free", n, h.Free())
	}
	if n := h.Collect(nil); n != 0 || h.Free() != api.MaxCells+3 {
		t.Errorf("none: %d, %d free", n, h.Free())
	}
	made(t, h, api.ShapeList, api.MaxCells, 0)
}

// P12.4: a block that is let go is none any more, and its cells lead nowhere.
func TestLetGo(t *testing.T) {
	h := chain(t, []int{1, 0, 2})
	h.Collect([]api.Cell{ref(4)})
	for at := range 4 {
		if _, _, e := h.Look(at); e != api.ErrNone {
			t.Errorf("Look(%d): %d", at, e)
		}
		if _, e := h.Load(at, 0); e != api.ErrNone {
			t.Errorf("Load(%d): %d", at, e)
		}
		if e := h.Store(at, 0, api.Cell{}); e != api.ErrNone {
			t.Errorf("Store(%d): %d", at, e)
		}
	}
	// A root to a place in which no block begins any more leads to the block that is made there, once it is.
	roots := []api.Cell{ref(0), ref(2)}
	if n := h.Collect(roots); n != 2 {
		t.Errorf("Collect: %d", n)
	}
	made(t, h, api.ShapeList, 3, 0)
	if n := h.Collect(roots); n != 0 {
		t.Errorf("Collect of the new one: %d", n)
	}
}

// P12.4: a chain through all of the greatest heap, to and fro, and one block that leads to all.
func TestCollectDeep(t *testing.T) {
	const blocks = api.MaxRoom / 2
	up, down := make([]int, blocks), make([]int, blocks)
	for i := range blocks {
		up[i], down[i] = min(i+1, blocks-1), max(i-1, 0)
	}
	for _, c := range []struct {
		next       []int
		root, free int
	}{
		{up, 0, 0}, {down, blocks - 1, 0}, {up, 1, 2}, {down, blocks - 2, 2}, {up, blocks - 1, 2*blocks - 2}, {down, 0, 2*blocks - 2},
	} {
		h := chain(t, c.next)
		if n := h.Collect([]api.Cell{ref(2 * c.root)}); n != c.free || h.Free() != c.free {
			t.Errorf("from %d: %d, %d free; want %d", c.root, n, h.Free(), c.free)
		}
	}
	h := of(t, 2*api.MaxCells+1)
	made(t, h, api.ShapeList, api.MaxCells, 0)
	for i := range api.MaxCells {
		made(t, h, api.ShapeClosure, 0, api.MaxCells+1+i)
		put(t, h, 0, i, ref(api.MaxCells+1+i))
	}
	if n := h.Collect([]api.Cell{ref(0)}); n != 0 || h.Free() != 0 {
		t.Errorf("one that leads to all: %d, %d free", n, h.Free())
	}
	put(t, h, 0, 7, api.Cell{})
	if n := h.Collect([]api.Cell{ref(0)}); n != 1 || h.Free() != 1 {
		t.Errorf("one that leads to all but one: %d, %d free", n, h.Free())
	}
}

// P12.4: more roots than the heap has cells, most of them wrong.
func TestManyRoots(t *testing.T) {
	h := chain(t, []int{1, 1, 2, 3})
	var roots []api.Cell
	for i := range 100000 {
		roots = append(roots, api.Cell{Tag: i % 6, N: 4}, ref(-i-1), ref(i+8), ref(1), ref(0))
	}
	if n := h.Collect(roots); n != 4 || !reflect.DeepEqual(begun(h), []int{0, 2}) {
		t.Errorf("%d, blocks at %v", n, begun(h))
	}
}
