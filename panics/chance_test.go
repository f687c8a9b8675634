package panics

import (
	"math/rand"
	"slices"
	"testing"

	"panicroad/api"
)

// each hands on all lists of so many events, of all kinds but exit; each event has a number of its own.
func each(n int, f func(l []api.Event)) {
	l := make([]api.Event, n)
	var fill func(at int)
	fill = func(at int) {
		if at == n {
			f(l)
			return
		}
		for kind := 1; kind <= 5; kind++ {
			l[at] = api.Event{Kind: kind, N: 10 + at, V: api.Value{Kind: api.VInt, N: 100 + at}}
			fill(at + 1)
		}
	}
	fill(0)
}

// chance is events by chance; what comes how often hangs on the chance, too.
func chance(m *rand.Rand, n int) []api.Event {
	var weights []int
	for kind, w := range []int{0, 4, 4, 6, 3, 4} {
		for range m.Intn(w + 1) {
			weights = append(weights, kind)
		}
	}
	weights = append(weights, 1, 2, 3, 4, 5)
	var l []api.Event
	for i := range n {
		e := api.Event{Kind: weights[m.Intn(len(weights))], N: m.Intn(2000) - 1000}
		if m.Intn(500) == 0 {
			e.Kind = api.EvExit
		}
		if e.Kind == api.EvPanic {
			e.V = api.Value{Kind: []int{api.VInt, api.VText, api.VErr}[m.Intn(3)], N: i, S: "s", L: []int{i}}
		}
		l = append(l, e)
	}
	return l
}

// compare plays events in the model and step by step, and in one, as long as there is no end; it looks at each step, or at the last one alone.
func compare(t *testing.T, l []api.Event, steps bool) {
	t.Helper()
	m, s := newModel(), Begin()
	var told []api.Tell
	for i, e := range l {
		m.do(e)
		next, more, code := Step(s, e)
		s, told = next, append(told, more...)
		if code != api.OK {
			t.Fatalf("%v: %d", l[:i+1], code)
		}
		if !steps && i < len(l)-1 && m.end == 0 {
			continue
		}
		if got, want := allText(s, more, code), allText(m.state(), m.told[len(told)-len(more):], api.OK); got != want {
			t.Fatalf("%v:\n%s\nnot\n%s", l[:i+1], got, want)
		}
		if m.end != 0 {
			break
		}
	}
	all, whole, code := Play(l)
	if got, want := allText(all, whole, code), allText(m.state(), m.told, api.OK); got != want {
		t.Fatalf("Play(%v):\n%s\nnot\n%s", l, got, want)
	}
}

// P9.2 to P9.6: all short plays.
func TestAllShortPlays(t *testing.T) {
	for n := range 8 {
		each(n, func(l []api.Event) { compare(t, l, false) })
	}
}

// P9.2 to P9.6
func TestPlaysByChance(t *testing.T) {
	m := rand.New(rand.NewSource(91))
	var ends [9]int
	for range 8000 {
		l := chance(m, m.Intn(150))
		compare(t, l, true)
		s, _, _ := Play(l)
		ends[s.End]++
	}
	for _, end := range []int{api.EndNone, api.EndDone, api.EndCrash, api.EndExit, api.EndDepth} {
		if ends[end] < 30 {
			t.Errorf("plays with the end %d: %d", end, ends[end])
		}
	}
}

// deep is a play by chance that seldom ends: main keeps much, and each event is taken as often as the others.
func deep(m *rand.Rand) []api.Event {
	l := slices.Repeat(events("keep:1"), 300)
	for i := range 500 {
		e := api.Event{Kind: 1 + m.Intn(5), N: i}
		if e.Kind == api.EvPanic {
			e.V = api.Value{Kind: api.VInt, N: i}
			l = append(l, e, api.Event{Kind: api.EvRecover})
			continue
		}
		l = append(l, e)
	}
	return l
}

// P9.4: many panics that are recovered, one behind the other.
func TestLongPlays(t *testing.T) {
	m := rand.New(rand.NewSource(92))
	for range 40 {
		compare(t, deep(m), true)
	}
}

// P9.2 to P9.4: as Go itself does it.
func TestPlaysAsGoDoesThem(t *testing.T) {
	try := func(l []api.Event) {
		_, told, _ := Play(l)
		if got, want := noted(told), play(l); got != want {
			t.Fatalf("%v:\n%s\nnot, as Go does it,\n%s", l, got, want)
		}
	}
	for n := range 8 {
		each(n, try)
	}
	m := rand.New(rand.NewSource(93))
	for range 5000 {
		l := chance(m, m.Intn(150))
		for i := range l {
			if l[i].Kind == api.EvPanic {
				l[i].V = api.Value{Kind: api.VInt, N: i}
			}
		}
		try(l)
	}
	for range 150 {
		try(deep(m))
	}
}
