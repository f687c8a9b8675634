package heap

import (
	"slices"
	"testing"

	"panicroad/api"
)

// P12.4: the roots stay as they are, their spare room too, and are not kept.
func TestRootsStay(t *testing.T) {
	h := chain(t, []int{1, 1, 2, 3})
	roots := append(make([]api.Cell, 0, 9), ref(0), api.Cell{Tag: 99, N: -1}, ref(7), ref(4))
	all := roots[:cap(roots)]
	for i := len(roots); i < len(all); i++ {
		all[i] = ref(6)
	}
	before := slices.Clone(all)
	if n := h.Collect(roots); n != 2 || !slices.Equal(all, before) {
		t.Fatalf("%d, %v; want %v", n, all, before)
	}
	want := told(h.Blocks())
	clear(all)
	if got := told(h.Blocks()); got != want {
		t.Errorf("%s\nwant %s", got, want)
	}
	if n := h.Collect(before[:4]); n != 0 {
		t.Errorf("again: %d", n)
	}
}

// P12.5: what Blocks answers is memory of its own, spare room too: to write on it changes neither the heap nor another answer.
func TestBlocksShareNothing(t *testing.T) {
	h := of(t, 14)
	for _, n := range []int{2, 0, 3, 1} {
		at, _ := h.Alloc(api.ShapeList, n)
		for i := range n {
			put(t, h, at, i, api.Cell{Tag: api.TagInt, N: 10*at + i})
		}
	}
	want := told(h.Blocks())
	first, second := h.Blocks(), h.Blocks()
	for k := range first {
		cells := first[k].Cells[:cap(first[k].Cells)]
		for i := range cells {
			cells[i] = api.Cell{Tag: -1, N: 77}
		}
		for j := k + 1; j < len(first); j++ {
			if told(first[j:j+1]) != told(second[j:j+1]) {
				t.Fatalf("the block %d changed with the block %d", j, k)
			}
		}
	}
	first = first[:cap(first)]
	clear(first)
	if told(second) != want || told(h.Blocks()) != want {
		t.Errorf("%s\n%s\nwant %s", told(second), told(h.Blocks()), want)
	}
	put(t, h, 0, 0, api.Cell{})
	h.Collect(nil)
	if told(second) != want {
		t.Errorf("an answer changed with the heap: %s\nwant %s", told(second), want)
	}
}

// P12.1: heaps share no cells.
func TestHeapsApart(t *testing.T) {
	a, b := of(t, 5), of(t, 5)
	made(t, a, api.ShapeBox, 1, 0)
	put(t, a, 0, 0, api.Cell{Tag: api.TagInt, N: 5})
	if b.Free() != 5 || len(b.Blocks()) != 0 {
		t.Errorf("%d free, %v", b.Free(), b.Blocks())
	}
	made(t, b, api.ShapeList, 2, 0)
	b.Collect(nil)
	if c, e := a.Load(0, 0); c.N != 5 || e != api.OK {
		t.Errorf("%v, %d", c, e)
	}
}

// What is asked changes nothing: a heap answers the same however often it is asked.
func TestAskedAgain(t *testing.T) {
	h := chain(t, []int{1, 2, 0})
	want := told(h.Blocks())
	for range 3 {
		for at := -1; at < 7; at++ {
			h.Look(at)
			h.Load(at, 0)
			h.Load(at, 1)
		}
		h.Alloc(api.ShapeBox, 0)
		h.Alloc(0, 0)
		h.Store(0, 1, ref(0))
		h.Store(0, 0, api.Cell{Tag: -1})
		if h.Free() != 0 || told(h.Blocks()) != want {
			t.Fatalf("%d free, %s\nwant %s", h.Free(), told(h.Blocks()), want)
		}
	}
}
