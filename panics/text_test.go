package panics

import (
	"fmt"
	"strconv"
	"strings"

	"panicroad/api"
)

// events reads a list of events: call, ret, keep:N, panic:N, rec, exit:N, with a blank between two.
func events(text string) []api.Event {
	var l []api.Event
	for _, word := range strings.Fields(text) {
		name, number, _ := strings.Cut(word, ":")
		n, _ := strconv.Atoi(number)
		e := api.Event{Kind: map[string]int{"call": 1, "ret": 2, "keep": 3, "panic": 4, "rec": 5, "exit": 6}[name], N: n}
		if e.Kind == 4 {
			e = api.Event{Kind: 4, V: api.Value{Kind: api.VInt, N: n}}
		}
		l = append(l, e)
	}
	return l
}

// valueText tells all fields of a value; of a plain number just that.
func valueText(v api.Value) string {
	if v.Kind == api.VInt && v.S == "" && len(v.L) == 0 {
		return strconv.Itoa(v.N)
	}
	return fmt.Sprintf("{%d %d %q %v}", v.Kind, v.N, v.S, v.L)
}

// toldText tells what was told, one behind the other, with each field that must be zero and is not.
func toldText(told []api.Tell) string {
	var l []string
	for _, t := range told {
		name, form := "?", ""
		switch t.Kind {
		case 1, 3, 4, 7:
			name = map[int]string{1: "begun", 3: "left", 4: "passed", 7: "end"}[t.Kind]
			form = fmt.Sprintf("%s:%d", name, t.N)
			t.N = 0
		case 2:
			form = fmt.Sprintf("start:%d>%d", t.N, t.To)
			t.N, t.To = 0, 0
		case 5:
			form = "recovered:" + valueText(t.V)
			t.V = api.Value{}
		case 6:
			form = "nothing"
		}
		if t.N != 0 || t.To != 0 || valueText(t.V) != "{0 0 \"\" []}" {
			form += fmt.Sprintf("?%v", t)
		}
		l = append(l, form)
	}
	return strings.Join(l, " ")
}

// stateText tells a state: of each activation Id, Mark (c, r, or p and the Panic), Phase (R, L, P), Defers; of each panic Serial, value, r (recovered), a (aborted); Next, Serial; End and Status, if there is an end.
func stateText(s api.State) string {
	var b strings.Builder
	for _, f := range s.Frames {
		mark := []string{"c", "r", "p"}[f.Mark]
		if f.Mark == 2 || f.Panic != -1 {
			mark += strconv.Itoa(f.Panic)
		}
		fmt.Fprintf(&b, "%d%s%s%v ", f.Id, mark, []string{"R", "L", "P"}[f.Phase], f.Defers)
	}
	b.WriteString("|")
	for _, p := range s.Panics {
		fmt.Fprintf(&b, " %d=%s", p.Serial, valueText(p.Value))
		if p.Recovered {
			b.WriteString("r")
		}
		if p.Aborted {
			b.WriteString("a")
		}
	}
	fmt.Fprintf(&b, " | %d %d", s.Next, s.Serial)
	if s.End != 0 || s.Status != 0 {
		fmt.Fprintf(&b, " end %d %d", s.End, s.Status)
	}
	return b.String()
}

// allText is what an answer of Step or Play says, in all.
func allText(s api.State, told []api.Tell, e api.Errno) string {
	return fmt.Sprintf("%s; %s; %d", stateText(s), toldText(told), e)
}

// nothing is whether a state is the zero one and nothing is told.
func nothing(s api.State, told []api.Tell) bool {
	return len(told) == 0 && stateText(s) == "| | 0 0"
}
