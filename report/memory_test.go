package report

import (
	"fmt"
	"slices"
	"testing"

	"panicroad/api"
)

// What holds everywhere: lists that are handed in stay as they are, their spare room too.
func TestNothingHandedInIsChanged(t *testing.T) {
	numbers := []int{1, 2, 3, 4}
	room := []api.Panic{
		{Serial: 5, Value: api.Value{Kind: api.VInt, N: 7, S: "x", L: numbers[:2]}, Aborted: true},
		{Serial: 6, Value: api.Value{Kind: api.VText, S: "a\x01", N: 1}, Recovered: true},
		{Serial: 7, Value: api.Value{Kind: api.VList, L: numbers[1:3]}},
		{Serial: 8, Value: api.Value{Kind: 77, S: "spare", L: numbers}},
	}
	starts := []api.Start{{Frame: 1, Site: 2, Mark: 2}, {Frame: 9}}
	before := fmt.Sprintf("%v %+v %v", numbers, room, starts)
	for range 2 {
		Crash(room[:3])
		Values(room[:3])
		Text(room[2].Value)
		Lines(api.Outcome{End: api.EndCrash, Starts: starts[:1]})
	}
	if after := fmt.Sprintf("%v %+v %v", numbers, room, starts); after != before {
		t.Errorf("what was handed in is changed: %s, not %s", after, before)
	}
}

// What holds everywhere: each answer is new memory, spare room too.
func TestReadSharesNothing(t *testing.T) {
	const s = "panic: 1 [recovered]\n\tpanic: \"b\"\n\tpanic: runtime error: c\n"
	first, _ := Read(s)
	second, _ := Read(s)
	want := told(second)
	for i := range first[:cap(first)] {
		first[:cap(first)][i] = api.Panic{Serial: -7}
	}
	if got := told(second); got != want {
		t.Errorf("two answers of Read share memory: %s, not %s", got, want)
	}
	if third, _ := Read(s); told(third) != want {
		t.Errorf("Read keeps its answer: %s, not %s", told(third), want)
	}
}

// What holds everywhere: each answer is new memory, spare room too.
func TestValuesShareNothing(t *testing.T) {
	l := []api.Panic{{Value: api.Value{Kind: api.VInt, N: 1}}, {Value: api.Value{Kind: api.VText, S: "b"}}}
	first, second := Values(l), Values(l)
	for i := range first[:cap(first)] {
		first[:cap(first)][i] = "spoiled"
	}
	if want := []string{"1", "b"}; !slices.Equal(second, want) || !slices.Equal(Values(l), want) {
		t.Errorf("answers of Values share memory: %q", second)
	}
}

// What holds everywhere: the same arguments, the same answer, whatever was asked between.
func TestAnswersHangOnArgumentsAlone(t *testing.T) {
	all := values()
	ask := func(v api.Value) string {
		l := []api.Panic{{Value: v}, {Value: v, Recovered: true}}
		read, e := Read(Crash(l))
		return fmt.Sprintf("%q %q %q %s %d", Text(v), Crash(l), Values(l), told(read), e)
	}
	first := make([]string, len(all))
	for i, v := range all {
		first[i] = ask(v)
	}
	for i := len(all) - 1; i >= 0; i-- {
		if again := ask(all[i]); again != first[i] {
			t.Errorf("of %+v: %s, then %s", all[i], first[i], again)
		}
	}
}
