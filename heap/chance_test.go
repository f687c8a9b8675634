package heap

import (
	"fmt"
	"math/rand"
	"strings"
	"testing"

	"panicroad/api"
)

// told is blocks as a text.
func told(l []api.Block) string {
	var b strings.Builder
	for _, x := range l {
		fmt.Fprintf(&b, "%d: shape %d,", x.At, x.Shape)
		for _, c := range x.Cells {
			fmt.Fprintf(&b, " %d/%d", c.Tag, c.N)
		}
		b.WriteString("\n")
	}
	return b.String()
}

// model is a heap in another way: a block lies for itself, and of each place it is known to which block it belongs.
type model struct {
	owner  []*api.Block
	blocks map[int]*api.Block
}

// alloc tries each place from the first one on.
func (m *model) alloc(shape, n int) (int, api.Errno) {
	for at := range m.owner {
		free := 0
		for free < n+1 && at+free < len(m.owner) && m.owner[at+free] == nil {
			free++
		}
		if free == n+1 {
			b := &api.Block{At: at, Shape: shape, Cells: make([]api.Cell, n)}
			m.blocks[at] = b
			for i := range free {
				m.owner[at+i] = b
			}
			return at, api.OK
		}
	}
	return 0, api.ErrFull
}

// collect spreads what is known to stay until nothing is added any more.
func (m *model) collect(roots []api.Cell) int {
	stays := map[*api.Block]bool{}
	spread := func(cells []api.Cell) bool {
		more := false
		for _, c := range cells {
			b := m.blocks[c.N]
			if c.Tag == api.TagRef && b != nil && !stays[b] {
				stays[b], more = true, true
			}
		}
		return more
	}
	spread(roots)
	for more := true; more; {
		more = false
		for _, b := range m.blocks {
			if stays[b] && spread(b.Cells) {
				more = true
			}
		}
	}
	n := 0
	for at, b := range m.owner {
		if b != nil && !stays[b] {
			m.owner[at] = nil
			delete(m.blocks, b.At)
			n++
		}
	}
	return n
}

// list is the model's blocks, by where they begin, and how many places are free.
func (m *model) list() ([]api.Block, int) {
	var l []api.Block
	free := 0
	for at, b := range m.owner {
		if b == nil {
			free++
		} else if b.At == at {
			l = append(l, *b)
		}
	}
	return l, free
}

// pair is a heap and its model, to which the same is done, and how often what came of it.
type pair struct {
	*rand.Rand
	h   *Heap
	m   *model
	met map[string]int
}

// place is where a block begins, mostly.
func (p *pair) place() int {
	l := p.h.Blocks()
	if len(l) == 0 || p.Intn(8) == 0 {
		return p.Intn(len(p.m.owner)+4) - 2
	}
	return l[p.Intn(len(l))].At
}

// cell is a cell by chance, one that leads to a block mostly.
func (p *pair) cell() api.Cell {
	if p.Intn(3) > 0 {
		return ref(p.place())
	}
	return api.Cell{Tag: p.Intn(10) - 1, N: p.place()}
}

// step does one thing by chance to both; what is told by both.
func (p *pair) step() (string, string) {
	switch k := p.Intn(20); {
	case k < 9:
		return p.alloc()
	case k < 17:
		return p.store()
	case k < 18:
		return p.collect()
	default:
		return p.load()
	}
}

func (p *pair) alloc() (string, string) {
	shape, n := 1+p.Intn(4), p.Intn(5)
	if p.Intn(12) == 0 {
		n = p.Intn(len(p.m.owner) + 1)
	}
	at, e := p.h.Alloc(shape, n)
	want, we := p.m.alloc(shape, n)
	if e == api.ErrFull {
		p.met["full"]++
	} else if l, _ := p.m.list(); l[len(l)-1].At != at {
		p.met["gap"]++
	}
	return fmt.Sprint("alloc ", at, e), fmt.Sprint("alloc ", want, we)
}

// at is the model's cell.
func (p *pair) at(at, i int) (*api.Cell, api.Errno) {
	b := p.m.blocks[at]
	if b == nil {
		return nil, api.ErrNone
	}
	if i < 0 || i >= len(b.Cells) {
		return nil, api.ErrRange
	}
	return &b.Cells[i], api.OK
}

func (p *pair) store() (string, string) {
	at, i, c := p.place(), p.Intn(5)-1, p.cell()
	e := p.h.Store(at, i, c)
	to, we := p.at(at, i)
	if we == api.OK && (c.Tag < 0 || c.Tag > 7) {
		we = api.ErrKind
	}
	if we == api.OK {
		*to = c
	}
	p.met[fmt.Sprint("store ", we)]++
	return fmt.Sprint("store ", e), fmt.Sprint("store ", we)
}

func (p *pair) load() (string, string) {
	at, i := p.place(), p.Intn(5)-1
	c, e := p.h.Load(at, i)
	from, we := p.at(at, i)
	want := api.Cell{}
	if we == api.OK {
		want = *from
	}
	p.met[fmt.Sprint("load ", we)]++
	return fmt.Sprint("load ", c, e), fmt.Sprint("load ", want, we)
}

func (p *pair) collect() (string, string) {
	var roots []api.Cell
	for range p.Intn(6) {
		roots = append(roots, p.cell())
	}
	n, want := p.h.Collect(roots), p.m.collect(roots)
	direct := map[int]bool{}
	for _, c := range roots {
		direct[c.N] = direct[c.N] || c.Tag == api.TagRef
	}
	for at := range p.m.blocks {
		if !direct[at] {
			p.met["led on"]++
		}
	}
	if n > 0 {
		p.met["let go"]++
	}
	return fmt.Sprint("collect ", n), fmt.Sprint("collect ", want)
}

// looks is what Look says of each place and a few beside.
func (p *pair) looks() (string, string) {
	var got, want strings.Builder
	for at := -2; at < len(p.m.owner)+2; at++ {
		shape, n, e := p.h.Look(at)
		fmt.Fprintln(&got, at, shape, n, e)
		if b := p.m.blocks[at]; b != nil {
			fmt.Fprintln(&want, at, b.Shape, len(b.Cells), api.OK)
		} else {
			fmt.Fprintln(&want, at, 0, 0, api.ErrNone)
		}
	}
	return got.String(), want.String()
}

// P12.1 to P12.5: what is done by chance comes out as in the model, step by step.
func TestChance(t *testing.T) {
	met := map[string]int{}
	for seed := range 400 {
		r := rand.New(rand.NewSource(int64(1200 + seed)))
		room := []int{0, 1, 2, 5, 12, 30, 60, 120}[seed%8]
		p := &pair{r, of(t, room), &model{make([]*api.Block, room), map[int]*api.Block{}}, met}
		for i := range 150 {
			got, want := p.step()
			blocks, free := p.m.list()
			if got != want || told(p.h.Blocks()) != told(blocks) || p.h.Free() != free {
				t.Fatalf("seed %d, step %d: %s, %d free\n%s\nwant %s, %d free\n%s", seed, i, got, p.h.Free(), told(p.h.Blocks()), want, free, told(blocks))
			}
		}
		if got, want := p.looks(); got != want {
			t.Fatalf("seed %d: %s\nwant %s", seed, got, want)
		}
	}
	for _, k := range []string{"full", "gap", "led on", "let go", "store 0", "store 13", "store 14", "store 16", "load 0", "load 14", "load 16"} {
		if met[k] < 200 {
			t.Errorf("%q was met %d times only", k, met[k])
		}
	}
}
