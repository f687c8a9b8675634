package panics

import (
	"math/rand"
	"testing"

	"panicroad/api"
)

// roomy is the same state with spare room behind each list, in which something stands that must stay.
func roomy(s api.State) api.State {
	frames := make([]api.Frame, 0, len(s.Frames)+3)
	for _, f := range s.Frames {
		f.Defers = append(make([]int, 0, len(f.Defers)+3), f.Defers...)
		room := f.Defers[len(f.Defers):cap(f.Defers)]
		for i := range room {
			room[i] = 99
		}
		frames = append(frames, f)
	}
	panics := append(make([]api.Panic, 0, len(s.Panics)+3), s.Panics...)
	for i := range panics {
		panics[i].Value.L = make([]int, 0, 3)
	}
	s.Frames, s.Panics = frames, panics
	return s
}

// spoil writes all over a state and what was told, in spare room too.
func spoil(s api.State, told []api.Tell) {
	for _, f := range s.Frames[:cap(s.Frames)] {
		l := f.Defers[:cap(f.Defers)]
		for i := range l {
			l[i] = -77
		}
	}
	for i := range s.Frames[:cap(s.Frames)] {
		s.Frames[:cap(s.Frames)][i] = api.Frame{Id: -77}
	}
	for i, p := range s.Panics[:cap(s.Panics)] {
		l := p.Value.L[:cap(p.Value.L)]
		for i := range l {
			l[i] = -77
		}
		s.Panics[:cap(s.Panics)][i] = api.Panic{Serial: -77}
	}
	for i, x := range told[:cap(told)] {
		l := x.V.L[:cap(x.V.L)]
		for i := range l {
			l[i] = -77
		}
		told[:cap(told)][i] = api.Tell{Kind: -77}
	}
}

// roomText tells a state with all that stands in the spare room of its lists.
func roomText(s api.State) string {
	room := s
	room.Frames = append([]api.Frame(nil), s.Frames[:cap(s.Frames)]...)
	for i := range room.Frames {
		room.Frames[i].Defers = room.Frames[i].Defers[:cap(room.Frames[i].Defers)]
	}
	room.Panics = append([]api.Panic(nil), s.Panics[:cap(s.Panics)]...)
	for i := range room.Panics {
		room.Panics[i].Value.L = room.Panics[i].Value.L[:cap(room.Panics[i].Value.L)]
	}
	return stateText(s) + " " + stateText(room)
}

// P9.2: what is handed in stays, its spare room too, and what comes out is memory of its own.
func TestStepSharesNothing(t *testing.T) {
	m := rand.New(rand.NewSource(94))
	for range 2000 {
		s, _, _ := Play(chance(m, m.Intn(40)))
		s = roomy(s)
		before := roomText(s)
		for _, text := range []string{"call", "ret", "keep:5", "panic:7", "rec", "exit:5"} {
			e := events(text)[0]
			next, told, code := Step(s, e)
			want := allText(next, told, code)
			other, more, _ := Step(s, e)
			after, _, _ := Step(next, events("keep:8")[0])
			spoil(other, more)
			spoil(after, nil)
			if got := allText(next, told, code); got != want {
				t.Fatalf("%s of %s: %s, spoiled to %s", text, before, want, got)
			}
			spoil(next, told)
			if got := roomText(s); got != before {
				t.Fatalf("%s of %s: spoiled to %s", text, before, got)
			}
		}
	}
}

// P9.2: no two lists of one answer share memory: each list can be made longer by itself.
func TestListsOfOneAnswer(t *testing.T) {
	m := rand.New(rand.NewSource(95))
	for range 2000 {
		l := chance(m, m.Intn(60))
		s, told, _ := Play(l)
		want := allText(s, told, api.OK)
		for _, f := range s.Frames {
			room := f.Defers[len(f.Defers):cap(f.Defers)]
			for i := range room {
				room[i] = -77
			}
		}
		if got := allText(s, told, api.OK); got != want {
			t.Fatalf("%v: %s, spoiled to %s", l, want, got)
		}
	}
}

// P9.6
func TestPlaySharesNothing(t *testing.T) {
	m := rand.New(rand.NewSource(96))
	for range 500 {
		l := chance(m, m.Intn(80))
		l = append(make([]api.Event, 0, len(l)+3), l...)
		want := allText(Play(l))
		s, told, code := Play(l)
		spoil(played(l))
		if got := allText(s, told, code); got != want {
			t.Fatalf("%v: %s, spoiled to %s", l, want, got)
		}
		spoil(s, told)
		if got := allText(Play(l)); got != want {
			t.Fatalf("%v, once more: %s, not %s", l, got, want)
		}
		for _, e := range l[len(l):cap(l)] {
			if e.Kind != 0 || e.N != 0 {
				t.Fatalf("behind the events: %+v", e)
			}
		}
	}
}

// played is Play without its error.
func played(l []api.Event) (api.State, []api.Tell) {
	s, told, _ := Play(l)
	return s, told
}

// DOC.md, 'What holds everywhere': none panics, though of such states nothing is promised.
func TestStepOfWildStates(t *testing.T) {
	m := rand.New(rand.NewSource(97))
	for range 50000 {
		s := api.State{Next: m.Intn(5), Serial: m.Intn(5) - 1}
		for range m.Intn(33) {
			f := api.Frame{Id: m.Intn(5), Mark: m.Intn(5) - 1, Panic: m.Intn(5) - 1, Phase: m.Intn(5) - 1}
			f.Defers = make([]int, max(0, m.Intn(6)-3))
			s.Frames = append(s.Frames, f)
		}
		for range m.Intn(4) {
			s.Panics = append(s.Panics, api.Panic{Serial: m.Intn(5) - 1, Value: api.Value{Kind: m.Intn(10)}, Recovered: m.Intn(2) == 0, Aborted: m.Intn(2) == 0})
		}
		e := chance(m, 1)[0]
		if _, _, code := Step(s, e); (code == api.OK) != (len(s.Frames) > 0) {
			t.Fatalf("%+v of %+v: %d", e, s, code)
		}
	}
}
