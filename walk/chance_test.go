package walk

import (
	"math/rand"
	"reflect"
	"strings"
	"testing"

	"panicroad/api"
	"panicroad/parse"
)

// sameOutcome takes no starts for the same, nil or not.
func sameOutcome(a, b api.Outcome) bool {
	if len(a.Starts) == 0 && len(b.Starts) == 0 {
		a.Starts, b.Starts = nil, nil
	}
	return reflect.DeepEqual(a, b)
}

// met counts what came of programs made by chance, to tell whether they say anything.
type met struct {
	ends                                       [9]int
	recovered, again, broken, errors, restarts int
}

func (m *met) note(o api.Outcome) {
	m.ends[o.End]++
	count := func(so bool, n *int) {
		if so {
			*n++
		}
	}
	var marks [3]int
	for _, s := range o.Starts {
		marks[s.Mark]++
	}
	count(strings.Contains(strings.ReplaceAll(o.Out, "r nil", ""), "r "), &m.recovered)
	count(strings.Contains(o.Crash, "[recovered]"), &m.again)
	count(strings.Count(o.Crash, "\t") > 1, &m.broken)
	count(strings.Contains(o.Out+o.Crash, "runtime error"), &m.errors)
	count(marks[api.MarkReturn] > 3 && marks[api.MarkPanic] > 3, &m.restarts)
}

// P11.1 to P11.6: programs made by chance, held against the second reading.
func TestByChance(t *testing.T) {
	t.Parallel()
	var m met
	for seed := range 3000 {
		maker := &maker{Rand: rand.New(rand.NewSource(int64(seed))), wild: 2 + seed%30}
		src := maker.program()
		tree, spot := parse.Parse(src)
		if spot.Code == api.ErrLong || spot.Code == api.ErrFull {
			continue
		}
		if spot != (api.Spot{}) {
			t.Fatalf("%v: %s", spot, src)
		}
		for _, fuel := range []int{1 + maker.Intn(100), 500, 3000} {
			o, blame := Tree(tree, fuel)
			if want := expect(tree, fuel); blame != (api.Blame{}) || !sameOutcome(o, want) {
				t.Fatalf("%s\nfuel %d: %+v\n%+v\nnot\n%+v", src, fuel, blame, o, want)
			}
			m.note(o)
		}
	}
	t.Logf("%+v", m)
	for _, n := range []int{m.ends[1], m.ends[2], m.ends[3], m.ends[4], m.ends[6], m.ends[7], m.recovered, m.again, m.broken, m.errors, m.restarts} {
		if n < 30 {
			t.Errorf("too seldom: %+v", m)
		}
	}
}

// P11.1: Run is Tree of the source's tree; printed and parsed again it goes the same way.
func TestRunByChance(t *testing.T) {
	t.Parallel()
	for seed := range 300 {
		maker := &maker{Rand: rand.New(rand.NewSource(int64(seed))), wild: 2 + seed%30}
		src := maker.program()
		tree, spot := parse.Parse(src)
		if spot != (api.Spot{}) {
			continue
		}
		o := ran(t, src, 500)
		if printed, e := parse.Print(tree); e == api.OK {
			if again := ran(t, printed, 500); !sameOutcome(again, o) {
				t.Fatalf("%s: %+v, printed %+v", src, o, again)
			}
		}
	}
}
