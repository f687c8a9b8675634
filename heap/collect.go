package heap

import "panicroad/api"

// Collect lets go of the blocks that the roots do not lead to; how many cells are free by that.
func (h *Heap) Collect(roots []api.Cell) int {
	if h == nil {
		return 0
	}
	met, n := h.met(roots), 0
	for at, next := range h.spans {
		if _, ok := met[at]; ok {
			continue
		}
		// A block that is made of these cells later takes them for zero.
		clear(h.cells[at:next])
		n += next - at
	}
	return n
}

// met is where the blocks begin to which the roots lead. What is still to be looked through stands in a list: blocks may lead on to one another in a chain as long as the heap.
func (h *Heap) met(roots []api.Cell) map[int]struct{} {
	met := map[int]struct{}{}
	ahead := h.meet(met, nil, roots)
	for len(ahead) > 0 {
		last := len(ahead) - 1
		at := ahead[last]
		ahead = h.meet(met, ahead[:last], h.body(at))
	}
	return met
}

// meet adds the blocks to which cells lead, and which were not met before, to both.
func (h *Heap) meet(met map[int]struct{}, ahead []int, cells []api.Cell) []int {
	for _, c := range cells {
		if c.Tag != api.TagRef || !h.begins(c.N) {
			continue
		}
		if _, ok := met[c.N]; !ok {
			met[c.N] = struct{}{}
			ahead = append(ahead, c.N)
		}
	}
	return ahead
}
