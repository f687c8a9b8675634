package panics

import (
	"math"
	"slices"
	"strings"
	"testing"

	"panicroad/api"
)

const (
	least    = math.MinInt64
	greatest = math.MaxInt64
)

// row is a play and what comes of it.
type row struct{ events, state, told string }

func try(t *testing.T, rows []row) {
	t.Helper()
	for _, r := range rows {
		s, told, e := Play(events(r.events))
		if got := stateText(s); got != r.state || e != api.OK {
			t.Errorf("%s: %s, %d, not %s", r.events, got, e, r.state)
		}
		if got := toldText(told); got != r.told {
			t.Errorf("%s: told %s, not %s", r.events, got, r.told)
		}
	}
}

// P9.1
func TestBegin(t *testing.T) {
	s := Begin()
	if len(s.Frames) != 1 || len(s.Panics) != 0 || s.Next != 1 || s.Serial != 0 || s.End != 0 || s.Status != 0 {
		t.Fatalf("%+v", s)
	}
	if f := s.Frames[0]; f.Id != 0 || f.Mark != api.MarkCall || f.Panic != -1 || f.Phase != api.PhaseRuns || len(f.Defers) != 0 {
		t.Errorf("%+v", f)
	}
	s.Frames[0].Id = 7
	s.Frames = append(s.Frames, api.Frame{Id: 8})
	if got := stateText(Begin()); got != "0cR[] | | 1 0" {
		t.Errorf("once more: %s", got)
	}
}

// P9.2, P9.3: what each event does by itself.
func TestEachEvent(t *testing.T) {
	try(t, []row{
		{"", "0cR[] | | 1 0", ""},
		{"call", "0cR[] 1cR[] | | 2 0", "begun:1"},
		{"call call", "0cR[] 1cR[] 2cR[] | | 3 0", "begun:1 begun:2"},
		{"keep:5", "0cR[5] | | 1 0", ""},
		{"keep:5 keep:-6 keep:5", "0cR[5 -6 5] | | 1 0", ""},
		{"keep:5 call keep:6", "0cR[5] 1cR[6] | | 2 0", "begun:1"},
		{"ret", "| | 1 0 end 1 0", "left:0 end:1"},
		{"call ret", "0cR[] | | 2 0", "begun:1 left:1"},
		{"call ret call", "0cR[] 2cR[] | | 3 0", "begun:1 left:1 begun:2"},
		{"panic:7", "| 0=7 | 1 1 end 2 2", "passed:0 end:2"},
		{"keep:5 panic:7", "0cP[] 1p0R[] | 0=7 | 2 1", "start:5>1"},
		{"rec", "0cR[] | | 1 0", "nothing"},
		{"exit:3", "0cR[] | | 1 0 end 3 3", "end:3"},
		{"keep:5 call keep:6 exit:0", "0cR[5] 1cR[6] | | 2 0 end 3 0", "begun:1 end:3"},
		{"keep:5 panic:7 rec exit:4", "0cP[] 1p0R[] | 0=7r | 2 1 end 3 4", "start:5>1 recovered:7 end:3"},
	})
}

// P9.2: the status is what the lowest eight bits tell, without a sign.
func TestExitStatus(t *testing.T) {
	for _, x := range []struct{ n, status int }{
		{0, 0}, {1, 1}, {127, 127}, {128, 128}, {255, 255}, {256, 0}, {257, 1}, {-1, 255}, {-255, 1}, {-256, 0}, {-128, 128}, {1<<32 + 9, 9}, {greatest, 255}, {least, 0}, {least + 200, 200},
	} {
		s, told, e := Step(Begin(), api.Event{Kind: api.EvExit, N: x.n})
		if s.End != api.EndExit || s.Status != x.status || toldText(told) != "end:3" || e != api.OK {
			t.Errorf("exit(%d): %+v, %v, %d", x.n, s, told, e)
		}
	}
}

// P9.2: which recover gives the panic, and which nothing.
func TestWhoRecovers(t *testing.T) {
	try(t, []row{
		// once alone
		{"keep:5 panic:7 rec rec", "0cP[] 1p0R[] | 0=7r | 2 1", "start:5>1 recovered:7 nothing"},
		// not in what the deferred call calls, but behind that
		{"keep:5 panic:7 call rec", "0cP[] 1p0R[] 2cR[] | 0=7 | 3 1", "start:5>1 begun:2 nothing"},
		{"keep:5 panic:7 call ret rec", "0cP[] 1p0R[] | 0=7r | 3 1", "start:5>1 begun:2 left:2 recovered:7"},
		// not in a deferred call that a return starts, even while a panic is in flight
		{"keep:5 ret rec", "0cL[] 1rR[] | | 2 0", "start:5>1 nothing"},
		{"keep:5 panic:7 call keep:6 ret rec", "0cP[] 1p0R[] 2cL[] 3rR[] | 0=7 | 4 1", "start:5>1 begun:2 start:6>3 nothing"},
		{"keep:5 panic:7 keep:6 ret rec", "0cP[] 1p0L[] 2rR[] | 0=7 | 3 1", "start:5>1 start:6>2 nothing"},
		// the last panic alone, while the first one is in flight
		{"keep:5 panic:7 call keep:6 panic:8 rec", "0cP[] 1p0R[] 2cP[] 3p1R[] | 0=7 1=8r | 4 2", "start:5>1 begun:2 start:6>3 recovered:8"},
		// the first one behind the end of the last one
		{"keep:5 panic:7 call keep:6 panic:8 rec ret rec", "0cP[] 1p0R[] | 0=7r | 4 2", "start:5>1 begun:2 start:6>3 recovered:8 left:3 left:2 recovered:7"},
		// a recovered one once more, behind another one's end: nothing
		{"keep:5 panic:7 rec call keep:6 panic:8 rec ret rec", "0cP[] 1p0R[] | 0=7r | 4 2", "start:5>1 recovered:7 begun:2 start:6>3 recovered:8 left:3 left:2 nothing"},
		// nor in main or in a called one, behind it
		{"call keep:5 panic:7 rec ret rec", "0cR[] | | 3 1", "begun:1 start:5>2 recovered:7 left:2 left:1 nothing"},
	})
}

// P9.4
func TestKeptCallsOfReturn(t *testing.T) {
	try(t, []row{
		{"keep:5 ret", "0cL[] 1rR[] | | 2 0", "start:5>1"},
		{"keep:5 keep:6 ret", "0cL[5] 1rR[] | | 2 0", "start:6>1"},
		{"keep:5 keep:6 ret ret", "0cL[] 2rR[] | | 3 0", "start:6>1 left:1 start:5>2"},
		{"keep:5 keep:6 ret ret ret", "| | 3 0 end 1 0", "start:6>1 left:1 start:5>2 left:2 left:0 end:1"},
		// what is kept within a deferred call starts ahead of the rest
		{"keep:5 keep:6 ret keep:8 ret", "0cL[5] 1rL[] 2rR[] | | 3 0", "start:6>1 start:8>2"},
		{"keep:5 keep:6 ret keep:8 ret ret", "0cL[] 3rR[] | | 4 0", "start:6>1 start:8>2 left:2 left:1 start:5>3"},
		// the caller's are not started
		{"keep:5 call keep:6 ret ret", "0cR[5] | | 3 0", "begun:1 start:6>2 left:2 left:1"},
		// a panic within one: the rest is started by that
		{"keep:5 keep:6 ret panic:7", "0cP[] 2p0R[] | 0=7 | 3 1", "start:6>1 passed:1 start:5>2"},
		{"keep:5 keep:6 ret panic:7 rec ret", "| | 3 1 end 1 0", "start:6>1 passed:1 start:5>2 recovered:7 left:2 left:0 end:1"},
	})
}

// P9.4
func TestKeptCallsOfPanic(t *testing.T) {
	try(t, []row{
		{"keep:5 keep:6 panic:7", "0cP[5] 1p0R[] | 0=7 | 2 1", "start:6>1"},
		{"keep:5 keep:6 panic:7 ret", "0cP[] 2p0R[] | 0=7 | 3 1", "start:6>1 left:1 start:5>2"},
		{"keep:5 keep:6 panic:7 ret ret", "| 0=7 | 3 1 end 2 2", "start:6>1 left:1 start:5>2 left:2 passed:0 end:2"},
		// through callers
		{"keep:5 call call panic:7", "0cP[] 3p0R[] | 0=7 | 4 1", "begun:1 begun:2 passed:2 passed:1 start:5>3"},
		{"call call panic:7", "| 0=7 | 3 1 end 2 2", "begun:1 begun:2 passed:2 passed:1 passed:0 end:2"},
		{"call panic:7", "| 0=7 | 2 1 end 2 2", "begun:1 passed:1 passed:0 end:2"},
		// recovered: the rest starts by a return; the caller goes on
		{"keep:5 keep:6 panic:7 rec ret", "0cL[] 2rR[] | | 3 1", "start:6>1 recovered:7 left:1 start:5>2"},
		{"call keep:6 panic:7 rec ret", "0cR[] | | 3 1", "begun:1 start:6>2 recovered:7 left:2 left:1"},
		{"keep:5 call panic:7 rec ret", "| | 3 1 end 1 0", "begun:1 passed:1 start:5>2 recovered:7 left:2 left:0 end:1"},
		// it ends when the deferred call has left, behind what that one keeps
		{"keep:5 panic:7 keep:6 rec ret", "0cP[] 1p0L[] 2rR[] | 0=7r | 3 1", "start:5>1 recovered:7 start:6>2"},
		{"keep:5 panic:7 keep:6 rec ret ret", "| | 3 1 end 1 0", "start:5>1 recovered:7 start:6>2 left:2 left:1 left:0 end:1"},
		// one panic behind the other: the serials go on
		{"keep:4 call keep:6 panic:7 rec ret panic:8", "0cP[] 3p1R[] | 1=8 | 4 2", "begun:1 start:6>2 recovered:7 left:2 left:1 start:4>3"},
	})
}

// P9.4: panics that break off others.
func TestBreaksOff(t *testing.T) {
	try(t, []row{
		{"keep:5 panic:7 panic:8", "| 0=7a 1=8 | 2 2 end 2 2", "start:5>1 passed:1 passed:0 end:2"},
		{"keep:5 panic:7 rec panic:8", "| 0=7ra 1=8 | 2 2 end 2 2", "start:5>1 recovered:7 passed:1 passed:0 end:2"},
		{"keep:4 keep:5 panic:7 panic:8", "0cP[] 2p1R[] | 0=7a 1=8 | 3 2", "start:5>1 passed:1 start:4>2"},
		// not yet, while what the deferred one keeps is at work
		{"keep:5 panic:7 keep:6 panic:8", "0cP[] 1p0P[] 2p1R[] | 0=7 1=8 | 3 2", "start:5>1 start:6>2"},
		// recovered within: the first goes on
		{"keep:5 panic:7 keep:6 panic:8 rec ret", "| 0=7 | 3 2 end 2 2", "start:5>1 start:6>2 recovered:8 left:2 left:1 passed:0 end:2"},
		// recovered within, when the first one is recovered too: both are gone
		{"keep:5 panic:7 rec keep:6 panic:8 rec ret", "| | 3 2 end 1 0", "start:5>1 recovered:7 start:6>2 recovered:8 left:2 left:1 left:0 end:1"},
		// those that are broken off are gone with the last one
		{"keep:4 keep:5 panic:7 panic:8 rec ret", "| | 3 2 end 1 0", "start:5>1 passed:1 start:4>2 recovered:8 left:2 left:0 end:1"},
		{"keep:3 keep:4 keep:5 panic:7 panic:8 panic:9 rec", "0cP[] 3p2R[] | 0=7a 1=8a 2=9r | 4 3", "start:5>1 passed:1 start:4>2 passed:2 start:3>3 recovered:9"},
		{"keep:3 keep:4 keep:5 panic:7 panic:8 panic:9 rec ret", "| | 4 3 end 1 0", "start:5>1 passed:1 start:4>2 passed:2 start:3>3 recovered:9 left:3 left:0 end:1"},
		// though they were recovered
		{"keep:4 keep:5 panic:7 rec panic:8 rec ret", "| | 3 2 end 1 0", "start:5>1 recovered:7 passed:1 start:4>2 recovered:8 left:2 left:0 end:1"},
		// up to one that is not broken off
		{"keep:3 panic:6 call keep:4 keep:5 panic:7 panic:8 rec ret", "0cP[] 1p0R[] | 0=6 | 5 3", "start:3>1 begun:2 start:5>3 passed:3 start:4>4 recovered:8 left:4 left:2"},
		// what a return had started breaks nothing off
		{"keep:3 panic:6 keep:4 ret panic:7", "| 0=6a 1=7 | 3 2 end 2 2", "start:3>1 start:4>2 passed:2 passed:1 passed:0 end:2"},
		{"keep:3 panic:6 call keep:2 keep:4 ret panic:7", "0cP[] 1p0R[] 2cP[] 4p1R[] | 0=6 1=7 | 5 2", "start:3>1 begun:2 start:4>3 passed:3 start:2>4"},
		// nor does what was called: the one that called it does
		{"keep:2 keep:3 panic:6 call panic:7", "0cP[] 3p1R[] | 0=6a 1=7 | 4 2", "start:3>1 begun:2 passed:2 passed:1 start:2>3"},
	})
}

// P9.4: the document's examples of the whole, 2 to 5 and 7.
func TestExamples(t *testing.T) {
	try(t, []row{
		{"call keep:1 panic:1 rec ret ret", "| | 3 1 end 1 0", "begun:1 start:1>2 recovered:1 left:2 left:1 left:0 end:1"},
		{"keep:1 panic:1 panic:2", "| 0=1a 1=2 | 2 2 end 2 2", "start:1>1 passed:1 passed:0 end:2"},
		{"keep:1 panic:1 rec panic:2", "| 0=1ra 1=2 | 2 2 end 2 2", "start:1>1 recovered:1 passed:1 passed:0 end:2"},
		{"keep:1 panic:1 call rec ret ret", "| 0=1 | 3 1 end 2 2", "start:1>1 begun:2 nothing left:2 left:1 passed:0 end:2"},
		{"keep:1 exit:3", "0cR[1] | | 1 0 end 3 3", "end:3"},
	})
}

// P9.3: one activation too many, by each event that begins one.
func TestDepth(t *testing.T) {
	full := strings.Repeat("call ", api.MaxDepth-2) + "keep:5 keep:6 "
	s, told, e := Play(events("keep:4 " + full + "call"))
	if len(s.Frames) != 30 || s.End != 0 || s.Next != 30 || len(told) != 29 || e != api.OK {
		t.Fatalf("%+v, %v, %d", s, told, e)
	}
	for _, x := range []struct{ event, top, panics, told string }{
		{"call", "29cR[5 6]", "|", "end:6"},
		{"ret", "29cL[5 6]", "|", "end:6"},
		{"panic:7", "29cP[5 6]", "| 0=7", "end:6"},
	} {
		s, told, e := Play(events("keep:4 call " + full + x.event))
		text := stateText(s)
		if !strings.Contains(text, " 28cR[] "+x.top+" "+x.panics+" | 30 ") || !strings.HasSuffix(text, " end 6 0") || len(s.Frames) != 30 || e != api.OK {
			t.Errorf("%s: %s, %d", x.event, text, e)
		}
		if got := toldText(told[29:]); got != x.told {
			t.Errorf("%s: told %s", x.event, got)
		}
	}
	// what is gone makes room
	s, _, e = Play(events(full + "call ret call ret ret"))
	if s.End != 0 || len(s.Frames) != 30 || s.Frames[29].Mark != api.MarkReturn || s.Frames[29].Id != 31 || e != api.OK {
		t.Errorf("behind a return: %s, %d", stateText(s), e)
	}
}

// P9.2, P9.5: a panic's value is plain, in the state and where it is told.
func TestPlainValues(t *testing.T) {
	for _, x := range []struct {
		v    api.Value
		want string
	}{
		{api.Value{Kind: api.VInt, N: -5, S: "x", L: []int{1}}, "-5"},
		{api.Value{Kind: api.VInt}, "0"},
		{api.Value{Kind: api.VInt, N: least}, "-9223372036854775808"},
		{api.Value{Kind: api.VText, N: 3, S: "a\n\xff", L: []int{1}}, `{3 0 "a\n\xff" []}`},
		{api.Value{Kind: api.VText}, `{3 0 "" []}`},
		{api.Value{Kind: api.VErr, N: 3, S: "e", L: []int{1}}, `{5 0 "e" []}`},
		{api.Value{Kind: api.VErr}, `{5 0 "" []}`},
	} {
		l := append(events("keep:1"), api.Event{Kind: api.EvPanic, N: 9, V: x.v}, api.Event{Kind: api.EvRecover, N: 9, V: x.v})
		s, told, e := Play(l)
		if got := stateText(s); got != "0cP[] 1p0R[] | 0="+x.want+"r | 2 1" || e != api.OK {
			t.Errorf("%v: %s, %d", x.v, got, e)
		}
		if got := toldText(told); got != "start:1>1 recovered:"+x.want {
			t.Errorf("%v: told %s", x.v, got)
		}
	}
}

// P9.2: what an event doesn't use is passed over.
func TestUnusedFields(t *testing.T) {
	junk := api.Value{Kind: api.VFunc, N: 4, S: "x", L: []int{3}}
	for _, text := range []string{"call", "ret", "keep:5", "rec", "exit:5"} {
		e := events(text)[0]
		e.V = junk
		if e.Kind != api.EvDefer && e.Kind != api.EvExit {
			e.N = 77
		}
		if got, want := allText(Step(Begin(), e)), allText(Step(Begin(), events(text)[0])); got != want {
			t.Errorf("%s: %s, not %s", text, got, want)
		}
	}
}

// refused are events that no state takes.
func refused() []api.Event {
	var l []api.Event
	for _, kind := range []int{least, -1, 0, 7, 8, 77, 256 + 1, 1<<32 + 1, greatest} {
		l = append(l, api.Event{Kind: kind, N: 1, V: api.Value{Kind: api.VInt}})
	}
	for _, kind := range []int{least, -1, api.VNone, api.VBool, api.VNil, api.VList, api.VPtr, api.VFunc, 9, 256 + api.VInt, greatest} {
		l = append(l, api.Event{Kind: api.EvPanic, V: api.Value{Kind: kind, N: 1, S: "x", L: []int{1}}})
	}
	return l
}

// P9.2
func TestStepRefusesEvents(t *testing.T) {
	busy, _, _ := Play(events("keep:5 keep:6 panic:7 rec call"))
	for _, s := range []api.State{Begin(), busy} {
		before := stateText(s)
		for _, e := range refused() {
			got, told, code := Step(s, e)
			if !nothing(got, told) || code != api.ErrKind {
				t.Errorf("%+v: %s, %v, %d", e, stateText(got), told, code)
			}
		}
		if stateText(s) != before {
			t.Errorf("changed: %s, not %s", stateText(s), before)
		}
	}
}

// P9.2: ErrState, ahead of ErrKind.
func TestStepRefusesStates(t *testing.T) {
	states := []api.State{{}, {Next: 1}, {Next: 5, Serial: 3, Panics: []api.Panic{{}}}}
	for _, end := range []int{least, -1, 1, 2, 3, 4, 5, 6, 7, 8, 9, 256, 1 << 32, greatest} {
		s := Begin()
		s.End = end
		states = append(states, s)
	}
	for _, text := range []string{"ret", "panic:1", "exit:0", "keep:5 panic:1 exit:4", strings.Repeat("call ", 30)} {
		s, _, _ := Play(events(text))
		states = append(states, s)
	}
	all := append(events("call ret keep:1 panic:1 rec exit:1"), refused()...)
	for _, s := range states {
		for _, e := range all {
			got, told, code := Step(s, e)
			if !nothing(got, told) || code != api.ErrState {
				t.Errorf("%+v of %s: %s, %v, %d", e, stateText(s), stateText(got), told, code)
			}
		}
	}
}

// P9.6
func TestPlayRefuses(t *testing.T) {
	for _, bad := range refused() {
		for _, ahead := range []string{"", "call", "keep:5 panic:7 rec", "keep:5 call ret"} {
			l := append(append(events(ahead), bad), events("ret ret ret")...)
			if s, told, e := Play(l); !nothing(s, told) || e != api.ErrKind {
				t.Errorf("%+v behind %s: %s, %v, %d", bad, ahead, stateText(s), told, e)
			}
		}
		for _, ahead := range []string{"ret", "panic:7", "exit:9", strings.Repeat("call ", 30)} {
			want := allText(Play(events(ahead)))
			if got := allText(Play(append(events(ahead), bad))); got != want {
				t.Errorf("%+v behind the end of %s: %s, not %s", bad, ahead, got, want)
			}
		}
	}
}

// P9.6: how many events there may be, at an end, too, and at one that is refused.
func TestPlayOfMany(t *testing.T) {
	for _, text := range []string{"keep:1", "rec", "exit:1", "oops"} {
		l := slices.Repeat(events(text), api.MaxEvents+1)
		if s, told, e := Play(l); !nothing(s, told) || e != api.ErrFull {
			t.Errorf("%s: %s, %v, %d", text, stateText(s), told, e)
		}
	}
	s, told, e := Play(slices.Repeat(events("keep:1"), api.MaxEvents))
	if len(s.Frames) != 1 || len(s.Frames[0].Defers) != api.MaxEvents || len(told) != 0 || e != api.OK {
		t.Errorf("keep: %d, %d", len(told), e)
	}
	s, told, e = Play(slices.Repeat(events("rec"), api.MaxEvents))
	if stateText(s) != "0cR[] | | 1 0" || len(told) != api.MaxEvents || e != api.OK {
		t.Errorf("rec: %d, %d", len(told), e)
	}
	s, told, e = Play(slices.Repeat(events("keep:1 panic:2"), api.MaxEvents/2))
	if s.End != api.EndDepth && s.End != api.EndCrash || len(told) == 0 || e != api.OK {
		t.Errorf("panics: %s, %d", stateText(s), e)
	}
	for _, l := range [][]api.Event{nil, {}} {
		if got := allText(Play(l)); got != "0cR[] | | 1 0; ; 0" {
			t.Errorf("nothing: %s", got)
		}
	}
}
