package heap

import (
	"math"
	"reflect"
	"testing"

	"panicroad/api"
)

// edges are numbers that stand at or past some edge.
var edges = []int{math.MinInt, math.MinInt + 1, -1 << 32, -2, -1, 0, 1, 2, 3, 4, 5, 6, 7, 8, 9, 1 << 32, math.MaxInt - 1, math.MaxInt}

// of is a heap of room cells.
func of(t *testing.T, room int) *Heap {
	t.Helper()
	h, e := New(room)
	if h == nil || e != api.OK {
		t.Fatalf("New(%d): %v, %d", room, h, e)
	}
	return h
}

// made is a new block, which must find its place.
func made(t *testing.T, h *Heap, shape, n, want int) int {
	t.Helper()
	at, e := h.Alloc(shape, n)
	if at != want || e != api.OK {
		t.Fatalf("Alloc(%d, %d): %d, %d; want %d", shape, n, at, e, want)
	}
	return at
}

// ref is a cell that leads to a place.
func ref(at int) api.Cell { return api.Cell{Tag: api.TagRef, N: at} }

// put stores a cell, which must be right.
func put(t *testing.T, h *Heap, at, i int, c api.Cell) {
	t.Helper()
	if e := h.Store(at, i, c); e != api.OK {
		t.Fatalf("Store(%d, %d, %v): %d", at, i, c, e)
	}
}

// begun is where a heap's blocks begin.
func begun(h *Heap) []int {
	l := []int{}
	for _, b := range h.Blocks() {
		l = append(l, b.At)
	}
	return l
}

// P12.1
func TestNew(t *testing.T) {
	for _, room := range []int{0, 1, 2, 17, api.MaxRoom - 1, api.MaxRoom} {
		h := of(t, room)
		if h.Free() != room || len(h.Blocks()) != 0 {
			t.Errorf("room %d: %d free, blocks %v", room, h.Free(), h.Blocks())
		}
		for at := -2; at < room+2; at++ {
			if _, _, e := h.Look(at); e != api.ErrNone {
				t.Fatalf("room %d: Look(%d): %d", room, at, e)
			}
		}
	}
	for _, room := range []int{math.MinInt, -api.MaxRoom, -1, api.MaxRoom + 1, 1 << 32, math.MaxInt} {
		if h, e := New(room); h != nil || e != api.ErrRange {
			t.Errorf("New(%d): %v, %d", room, h, e)
		}
	}
}

// P12.2: what a block takes, and where it lies.
func TestAlloc(t *testing.T) {
	h := of(t, 10)
	made(t, h, api.ShapeBox, 1, 0)
	made(t, h, api.ShapeList, 0, 2)
	made(t, h, api.ShapeClosure, 3, 3)
	made(t, h, api.ShapeRecord, 1, 7)
	if at, e := h.Alloc(api.ShapeBox, 1); at != 0 || e != api.ErrFull {
		t.Errorf("one cell too few: %d, %d", at, e)
	}
	if h.Free() != 1 {
		t.Errorf("%d free", h.Free())
	}
	made(t, h, api.ShapeBox, 0, 9)
	if at, e := h.Alloc(api.ShapeBox, 0); at != 0 || e != api.ErrFull || h.Free() != 0 {
		t.Errorf("full: %d, %d, %d free", at, e, h.Free())
	}
	want := []api.Block{
		{At: 0, Shape: api.ShapeBox, Cells: make([]api.Cell, 1)},
		{At: 2, Shape: api.ShapeList},
		{At: 3, Shape: api.ShapeClosure, Cells: make([]api.Cell, 3)},
		{At: 7, Shape: api.ShapeRecord, Cells: make([]api.Cell, 1)},
		{At: 9, Shape: api.ShapeBox},
	}
	if got := h.Blocks(); told(got) != told(want) {
		t.Errorf("%s\nwant %s", told(got), told(want))
	}
}

// P12.2: how wide a block and a heap may be.
func TestAllocEdges(t *testing.T) {
	for _, c := range []struct {
		room, n int
		e       api.Errno
	}{
		{0, 0, api.ErrFull}, {1, 0, api.OK}, {1, 1, api.ErrFull}, {2, 1, api.OK},
		{api.MaxCells, api.MaxCells - 1, api.OK}, {api.MaxCells, api.MaxCells, api.ErrFull},
		{api.MaxCells + 1, api.MaxCells, api.OK}, {api.MaxCells + 2, api.MaxCells + 1, api.ErrRange},
		{api.MaxRoom, api.MaxCells, api.OK}, {api.MaxRoom, api.MaxCells + 1, api.ErrRange},
		{api.MaxRoom, -1, api.ErrRange}, {0, -1, api.ErrRange}, {0, api.MaxCells + 1, api.ErrRange},
		{9, math.MinInt, api.ErrRange}, {9, math.MaxInt, api.ErrRange}, {9, -2, api.ErrRange},
	} {
		h := of(t, c.room)
		at, e := h.Alloc(api.ShapeList, c.n)
		free := c.room
		if c.e == api.OK {
			free -= c.n + 1
		}
		if at != 0 || e != c.e || h.Free() != free {
			t.Errorf("room %d, %d cells: %d, %d, %d free; want %d", c.room, c.n, at, e, h.Free(), c.e)
		}
	}
}

// P12.2: a shape that is none is told ahead of a number that is none, and that ahead of a heap that is full.
func TestAllocWrong(t *testing.T) {
	for _, room := range []int{0, 3, api.MaxRoom} {
		h := of(t, room)
		for _, shape := range edges {
			for _, n := range append([]int{api.MaxCells, api.MaxCells + 1}, edges...) {
				want := api.ErrFull
				if shape < 1 || shape > 4 {
					want = api.ErrKind
				} else if n < 0 || n > api.MaxCells {
					want = api.ErrRange
				} else if n+1 <= room {
					continue
				}
				if at, e := h.Alloc(shape, n); at != 0 || e != want {
					t.Errorf("room %d: Alloc(%d, %d): %d, %d; want %d", room, shape, n, at, e, want)
				}
			}
		}
		if h.Free() != room {
			t.Errorf("room %d: %d free", room, h.Free())
		}
	}
}

// P12.2: the first gap that is wide enough is taken, also where two that were let go lie side by side, and the last cells count.
func TestAllocFirst(t *testing.T) {
	fresh := func() *Heap {
		h := of(t, 20)
		for _, b := range [][2]int{{1, 0}, {2, 2}, {3, 5}, {1, 9}, {4, 11}, {0, 16}} {
			made(t, h, api.ShapeList, b[0], b[1])
		}
		// What stays is 0, 5 and 16: the gaps are 2 to 4, 9 to 15 and 17 to 19.
		if n := h.Collect([]api.Cell{ref(0), ref(5), ref(16)}); n != 10 {
			t.Fatalf("Collect: %d", n)
		}
		return h
	}
	for n, want := range []int{2, 2, 2, 9, 9, 9, 9} {
		h := fresh()
		made(t, h, api.ShapeBox, n, want)
		if h.Free() != 13-n-1 {
			t.Errorf("%d cells: %d free", n, h.Free())
		}
	}
	h := fresh()
	if at, e := h.Alloc(api.ShapeBox, 7); at != 0 || e != api.ErrFull {
		t.Errorf("8 in a row: %d, %d", at, e)
	}
	made(t, h, api.ShapeBox, 6, 9)
	made(t, h, api.ShapeBox, 2, 2)
	if at, e := h.Alloc(api.ShapeBox, 3); at != 0 || e != api.ErrFull {
		t.Errorf("4 in a row: %d, %d", at, e)
	}
	made(t, h, api.ShapeBox, 2, 17)
	if h.Free() != 0 {
		t.Errorf("%d free", h.Free())
	}
}

// P12.2: the cells of a new block are zero, also where others lay ahead, the place of a first one among them.
func TestAllocZero(t *testing.T) {
	h := of(t, 12)
	for _, n := range []int{1, 4, 0, 2} {
		at, _ := h.Alloc(api.ShapeList, n)
		for i := range n {
			put(t, h, at, i, api.Cell{Tag: 1 + i, N: -9 - at})
		}
	}
	if n := h.Collect(nil); n != 11 || h.Free() != 12 {
		t.Fatalf("Collect: %d, %d free", n, h.Free())
	}
	made(t, h, api.ShapeRecord, 11, 0)
	for i := range 11 {
		if c, e := h.Load(0, i); c != (api.Cell{}) || e != api.OK {
			t.Errorf("cell %d: %v, %d", i, c, e)
		}
	}
}

// P12.3: what Look says, of each place.
func TestLook(t *testing.T) {
	h := of(t, 12)
	for _, b := range [][3]int{{api.ShapeBox, 1, 0}, {api.ShapeList, 4, 2}, {api.ShapeClosure, 0, 7}, {api.ShapeRecord, 2, 8}} {
		made(t, h, b[0], b[1], b[2])
	}
	for at := range 12 {
		want := map[int][2]int{0: {1, 1}, 2: {2, 4}, 7: {3, 0}, 8: {4, 2}}
		shape, n, e := h.Look(at)
		w, ok := want[at]
		if ok != (e == api.OK) || !ok && e != api.ErrNone || shape != w[0] || n != w[1] {
			t.Errorf("Look(%d): %d, %d, %d", at, shape, n, e)
		}
	}
	for _, at := range []int{math.MinInt, -1, 12, 13, 1 << 32, math.MaxInt} {
		if shape, n, e := h.Look(at); shape != 0 || n != 0 || e != api.ErrNone {
			t.Errorf("Look(%d): %d, %d, %d", at, shape, n, e)
		}
	}
}

// P12.3: a cell keeps what is put into it, and no other cell does.
func TestLoadStore(t *testing.T) {
	h := of(t, 9)
	a := made(t, h, api.ShapeList, 3, 0)
	b := made(t, h, api.ShapeBox, 1, 4)
	want := map[[2]int]api.Cell{{a, 0}: {}, {a, 1}: {}, {a, 2}: {}, {b, 0}: {}}
	for tag := range 8 {
		for _, n := range edges {
			for _, at := range [][2]int{{a, 2}, {b, 0}, {a, 0}, {a, 1}} {
				c := api.Cell{Tag: tag, N: n ^ at[0] ^ at[1]}
				put(t, h, at[0], at[1], c)
				want[at] = c
				for w, c := range want {
					if got, e := h.Load(w[0], w[1]); got != c || e != api.OK {
						t.Fatalf("Load(%v): %v, %d; want %v", w, got, e, c)
					}
				}
			}
		}
	}
	if h.Free() != 3 || !reflect.DeepEqual(begun(h), []int{0, 4}) {
		t.Errorf("%d free, blocks at %v", h.Free(), begun(h))
	}
}

// P12.3: a block that is none is told ahead of a cell that is none, and that ahead of a tag that is none.
func TestLoadStoreWrong(t *testing.T) {
	h := of(t, 9)
	made(t, h, api.ShapeList, 3, 0)
	made(t, h, api.ShapeClosure, 0, 4)
	sizes := map[int]int{0: 3, 4: 0}
	for i := range 3 {
		put(t, h, 0, i, api.Cell{Tag: 1, N: 5 + i})
	}
	before := told(h.Blocks())
	for _, at := range edges {
		n, ok := sizes[at]
		for _, i := range edges {
			read := api.OK
			if !ok {
				read = api.ErrNone
			} else if i < 0 || i >= n {
				read = api.ErrRange
			}
			if c, e := h.Load(at, i); e != read || e != api.OK && c != (api.Cell{}) {
				t.Errorf("Load(%d, %d): %v, %d; want %d", at, i, c, e, read)
			}
			for _, tag := range edges {
				write := read
				if read == api.OK && (tag < 0 || tag > 7) {
					write = api.ErrKind
				}
				if write == api.OK {
					continue
				}
				if e := h.Store(at, i, api.Cell{Tag: tag, N: 1}); e != write {
					t.Errorf("Store(%d, %d, %d): %d; want %d", at, i, tag, e, write)
				}
			}
		}
	}
	if got := told(h.Blocks()); got != before {
		t.Errorf("%s\nwant %s", got, before)
	}
}

// P12.5
func TestBlocks(t *testing.T) {
	h := of(t, 11)
	made(t, h, api.ShapeList, 2, 0)
	made(t, h, api.ShapeBox, 1, 3)
	made(t, h, api.ShapeClosure, 0, 5)
	made(t, h, api.ShapeRecord, 1, 6)
	put(t, h, 0, 1, api.Cell{Tag: api.TagInt, N: -4})
	put(t, h, 3, 0, ref(3))
	put(t, h, 6, 0, api.Cell{Tag: api.TagFn, N: math.MaxInt})
	h.Collect([]api.Cell{ref(6), ref(3)})
	// What is made last lies ahead, where there is a gap.
	made(t, h, api.ShapeBox, 2, 0)
	put(t, h, 0, 0, api.Cell{Tag: api.TagErr, N: 1})
	want := []api.Block{
		{At: 0, Shape: api.ShapeBox, Cells: []api.Cell{{Tag: api.TagErr, N: 1}, {}}},
		{At: 3, Shape: api.ShapeBox, Cells: []api.Cell{ref(3)}},
		{At: 6, Shape: api.ShapeRecord, Cells: []api.Cell{{Tag: api.TagFn, N: math.MaxInt}}},
	}
	if got := h.Blocks(); told(got) != told(want) || h.Free() != 4 {
		t.Errorf("%d free, %s\nwant %s", h.Free(), told(got), told(want))
	}
}

// P12.6
func TestNil(t *testing.T) {
	var h *Heap
	for _, x := range edges {
		for _, y := range edges {
			if at, e := h.Alloc(x, y); at != 0 || e != api.ErrState {
				t.Errorf("Alloc(%d, %d): %d, %d", x, y, at, e)
			}
			if c, e := h.Load(x, y); c != (api.Cell{}) || e != api.ErrNone {
				t.Errorf("Load(%d, %d): %v, %d", x, y, c, e)
			}
			if e := h.Store(x, y, api.Cell{Tag: y}); e != api.ErrNone {
				t.Errorf("Store(%d, %d): %d", x, y, e)
			}
		}
		if shape, n, e := h.Look(x); shape != 0 || n != 0 || e != api.ErrNone {
			t.Errorf("Look(%d): %d, %d, %d", x, shape, n, e)
		}
		if n := h.Collect([]api.Cell{ref(x)}); n != 0 {
			t.Errorf("Collect: %d", n)
		}
	}
	if h.Collect(nil) != 0 || h.Free() != 0 || len(h.Blocks()) != 0 {
		t.Errorf("%d, %d, %v", h.Collect(nil), h.Free(), h.Blocks())
	}
}

// A heap that New did not make has no cells.
func TestBare(t *testing.T) {
	h := new(Heap)
	if at, e := h.Alloc(api.ShapeBox, 0); at != 0 || e != api.ErrFull {
		t.Errorf("Alloc: %d, %d", at, e)
	}
	if _, _, e := h.Look(0); e != api.ErrNone {
		t.Errorf("Look: %d", e)
	}
	if h.Collect([]api.Cell{ref(0)}) != 0 || h.Free() != 0 || len(h.Blocks()) != 0 {
		t.Errorf("%d free, %v", h.Free(), h.Blocks())
	}
}
