package report

import (
	"math/rand"
	"slices"
	"strings"
	"testing"

	"panicroad/api"
	"panicroad/panics"
	"panicroad/scan"
)

// P10.1
func TestTextOfEachKind(t *testing.T) {
	for _, x := range []struct {
		v    api.Value
		want string
	}{
		{api.Value{Kind: api.VInt}, "0"},
		{api.Value{Kind: api.VInt, N: 7, S: "x", L: []int{1}}, "7"},
		{api.Value{Kind: api.VInt, N: -40}, "-40"},
		{api.Value{Kind: api.VInt, N: least}, "-9223372036854775808"},
		{api.Value{Kind: api.VInt, N: greatest}, "9223372036854775807"},
		{api.Value{Kind: api.VText}, `""`},
		{api.Value{Kind: api.VText, S: "a b", N: 3, L: []int{1}}, `"a b"`},
		{api.Value{Kind: api.VText, S: "a\"b\\c\nd\te"}, `"a\"b\\c\nd\te"`},
		{api.Value{Kind: api.VText, S: "\x00\x1f ~\x7f\x80\xff\r"}, `"?? ~????"`},
		{api.Value{Kind: api.VText, S: "é?"}, `"???"`},
		{api.Value{Kind: api.VErr}, ""},
		{api.Value{Kind: api.VErr, S: "runtime error: x", N: 3, L: []int{1}}, "runtime error: x"},
		{api.Value{Kind: api.VErr, S: "a\"b\\c"}, `a"b\c`},
		{api.Value{Kind: api.VErr, S: "a\nb\tc"}, "a?b?c"},
		{api.Value{Kind: api.VErr, S: "\x00\x1f ~\x7f\x80\xff\r"}, "?? ~????"},
		{api.Value{Kind: api.VErr, S: "é?"}, "???"},
		{api.Value{}, "?"},
		{api.Value{Kind: api.VNone, N: 1, S: "x"}, "?"},
		{api.Value{Kind: api.VBool, N: 1}, "?"},
		{api.Value{Kind: api.VNil}, "?"},
		{api.Value{Kind: api.VList, L: []int{1}}, "?"},
		{api.Value{Kind: api.VPtr, N: 1}, "?"},
		{api.Value{Kind: api.VFunc, N: 1}, "?"},
		{api.Value{Kind: 9, N: 1, S: "x"}, "?"},
		{api.Value{Kind: -1, N: 1, S: "x"}, "?"},
		{api.Value{Kind: 256 + api.VInt, N: 1}, "?"},
	} {
		if got := Text(x.v); got != x.want {
			t.Errorf("Text(%+v): %q, not %q", x.v, got, x.want)
		}
	}
}

// P10.1
func TestTextOfAllValues(t *testing.T) {
	for _, v := range values() {
		if got, want := Text(v), expectText(v); got != want {
			t.Errorf("Text(%+v): %q, not %q", v, got, want)
		}
	}
}

// P10.1: what Quote takes is told as Quote writes it.
func TestTextIsQuote(t *testing.T) {
	for _, s := range texts() {
		want, e := scan.Quote(s)
		if got := Text(api.Value{Kind: api.VText, S: s}); e == api.OK && got != want {
			t.Errorf("Text of %q: %q, not %q", s, got, want)
		}
	}
}

// P10.1: of any length, though Quote refuses more than MaxText bytes.
func TestTextOfLongTexts(t *testing.T) {
	for _, n := range []int{api.MaxText - 1, api.MaxText, api.MaxText + 1, 2*api.MaxText + 1, 100000} {
		s := strings.Repeat("\n", n)
		if got, want := Text(api.Value{Kind: api.VText, S: s}), `"`+strings.Repeat(`\n`, n)+`"`; got != want {
			t.Errorf("Text of %d bytes has %d", n, len(got))
		}
		if got, want := Text(api.Value{Kind: api.VErr, S: s}), strings.Repeat("?", n); got != want {
			t.Errorf("Text of an error of %d bytes has %d", n, len(got))
		}
	}
}

// P10.2
func TestCrash(t *testing.T) {
	one, text, fault := api.Value{Kind: api.VInt, N: 1}, api.Value{Kind: api.VText, S: "x\n"}, api.Value{Kind: api.VErr, S: "runtime error: x\n"}
	for _, x := range []struct {
		l    []api.Panic
		want string
	}{
		{nil, ""},
		{[]api.Panic{}, ""},
		{[]api.Panic{{Value: one}}, "panic: 1\n"},
		{[]api.Panic{{Value: one, Recovered: true}}, "panic: 1 [recovered]\n"},
		{[]api.Panic{{Value: one, Aborted: true}}, "panic: 1\n"},
		{[]api.Panic{{Value: one, Recovered: true, Aborted: true}}, "panic: 1 [recovered]\n"},
		{[]api.Panic{{Value: one, Serial: 7}}, "panic: 1\n"},
		{[]api.Panic{{Value: one, Serial: 7}, {Value: text}}, "panic: 1\n\tpanic: \"x\\n\"\n"},
		{[]api.Panic{{Value: one, Recovered: true}, {Value: text}}, "panic: 1 [recovered]\n\tpanic: \"x\\n\"\n"},
		{[]api.Panic{{Value: one}, {Value: text, Recovered: true}}, "panic: 1\n\tpanic: \"x\\n\" [recovered]\n"},
		{[]api.Panic{{Value: one}, {Value: text}, {Value: fault}}, "panic: 1\n\tpanic: \"x\\n\"\n\tpanic: runtime error: x?\n"},
		{[]api.Panic{{}, {Recovered: true}, {Value: api.Value{Kind: api.VNil}}}, "panic: ?\n\tpanic: ? [recovered]\n\tpanic: ?\n"},
		{[]api.Panic{{Value: api.Value{Kind: api.VErr}}, {Value: api.Value{Kind: api.VErr}, Recovered: true}}, "panic: \n\tpanic:  [recovered]\n"},
	} {
		if got := Crash(x.l); got != x.want {
			t.Errorf("Crash(%+v): %q, not %q", x.l, got, x.want)
		}
	}
}

// P10.2, P10.3, P10.6
func TestPanicsByChance(t *testing.T) {
	chance, all := rand.New(rand.NewSource(1)), values()
	for range 20000 {
		l := byChance(chance, all)
		crash := Crash(l)
		if want := expectCrash(l); crash != want {
			t.Fatalf("Crash(%+v): %q, not %q", l, crash, want)
		}
		checkRead(t, crash)
		checkValues(t, l)
	}
}

// checkRead holds Read against the second reading, and what was read against its crash.
func checkRead(t *testing.T, s string) bool {
	t.Helper()
	got, e := Read(s)
	want, wantErr := expectRead(s)
	if told(got) != told(want) || e != wantErr {
		t.Fatalf("Read(%q): %s, %d, not %s, %d", s, told(got), e, told(want), wantErr)
	}
	if e == api.OK && Crash(got) != s {
		t.Fatalf("Crash of what Read(%q) answers: %q", s, Crash(got))
	}
	return e == api.OK
}

// checkValues holds Values against what fmt writes.
func checkValues(t *testing.T, l []api.Panic) {
	t.Helper()
	got := Values(l)
	if len(got) != len(l) {
		t.Fatalf("Values(%+v): %q", l, got)
	}
	for i, p := range l {
		if want := expectShow(p.Value); got[i] != want {
			t.Fatalf("Values(%+v): %q at %d, not %q", l, got[i], i, want)
		}
	}
}

// P10.3
func TestReadTellsPanics(t *testing.T) {
	long := strings.Repeat("a", api.MaxText)
	for _, x := range []struct {
		s    string
		want []api.Panic
	}{
		{"", nil},
		{"panic: 1\n", []api.Panic{{Value: api.Value{Kind: api.VInt, N: 1}}}},
		{"panic: 0 [recovered]\n", []api.Panic{{Value: api.Value{Kind: api.VInt}, Recovered: true}}},
		{"panic: -9223372036854775808\n", []api.Panic{{Value: api.Value{Kind: api.VInt, N: least}}}},
		{"panic: 9223372036854775807\n", []api.Panic{{Value: api.Value{Kind: api.VInt, N: greatest}}}},
		{"panic: \"\"\n", []api.Panic{{Value: api.Value{Kind: api.VText}}}},
		{"panic: \"1\"\n", []api.Panic{{Value: api.Value{Kind: api.VText, S: "1"}}}},
		{"panic: \"a\\\"\\\\\\n\\t?\" [recovered]\n", []api.Panic{{Value: api.Value{Kind: api.VText, S: "a\"\\\n\t?"}, Recovered: true}}},
		{"panic: \"runtime error: x\"\n", []api.Panic{{Value: api.Value{Kind: api.VText, S: "runtime error: x"}}}},
		{"panic: \"" + long + "\"\n", []api.Panic{{Value: api.Value{Kind: api.VText, S: long}}}},
		{"panic: runtime error: \n", []api.Panic{{Value: api.Value{Kind: api.VErr, S: "runtime error: "}}}},
		{"panic: runtime error: x \n", []api.Panic{{Value: api.Value{Kind: api.VErr, S: "runtime error: x "}}}},
		{"panic: runtime error: a\"\\n\n", []api.Panic{{Value: api.Value{Kind: api.VErr, S: "runtime error: a\"\\n"}}}},
		{"panic: 1\n\tpanic: \"b\" [recovered]\n\tpanic: runtime error: c\n", []api.Panic{
			{Value: api.Value{Kind: api.VInt, N: 1}},
			{Serial: 1, Value: api.Value{Kind: api.VText, S: "b"}, Recovered: true},
			{Serial: 2, Value: api.Value{Kind: api.VErr, S: "runtime error: c"}},
		}},
	} {
		if got, e := Read(x.s); told(got) != told(x.want) || e != api.OK {
			t.Errorf("Read(%q): %s, %d, not %s", x.s, told(got), e, told(x.want))
		}
	}
}

// P10.3: a mark is what stands last in a line; other marks are of the value.
func TestReadTakesTheLastMark(t *testing.T) {
	for _, x := range []struct {
		s    string
		want api.Panic
	}{
		{"panic: runtime error: x [recovered]\n", api.Panic{Value: api.Value{Kind: api.VErr, S: "runtime error: x"}, Recovered: true}},
		{"panic: runtime error: x [recovered] [recovered]\n", api.Panic{Value: api.Value{Kind: api.VErr, S: "runtime error: x [recovered]"}, Recovered: true}},
		{"panic: runtime error:  [recovered]\n", api.Panic{Value: api.Value{Kind: api.VErr, S: "runtime error: "}, Recovered: true}},
		{"panic: runtime error: x [recovered] y\n", api.Panic{Value: api.Value{Kind: api.VErr, S: "runtime error: x [recovered] y"}}},
		{"panic: runtime error: x [recovered] \n", api.Panic{Value: api.Value{Kind: api.VErr, S: "runtime error: x [recovered] "}}},
		{"panic: runtime error: x[recovered]\n", api.Panic{Value: api.Value{Kind: api.VErr, S: "runtime error: x[recovered]"}}},
		{"panic: \"a [recovered]\"\n", api.Panic{Value: api.Value{Kind: api.VText, S: "a [recovered]"}}},
		{"panic: \" [recovered]\" [recovered]\n", api.Panic{Value: api.Value{Kind: api.VText, S: " [recovered]"}, Recovered: true}},
	} {
		if got, e := Read(x.s); told(got) != told([]api.Panic{x.want}) || e != api.OK {
			t.Errorf("Read(%q): %s, %d", x.s, told(got), e)
		}
	}
}

// P10.3
func TestReadRefuses(t *testing.T) {
	for _, s := range []string{
		"\n", " ", "x", "panic", "panic: ", "panic: \n", "panic:\n", "panic:1\n", "panic:  1\n", "Panic: 1\n", "panic: 1", "panic: 1\r\n", "panic: 1 \n", "\"a\"\n", "1\n",
		"panic: ?\n", "panic: nil\n", "panic: x\n", "panic: true\n", "panic: runtime error:\n", "panic: runtime error:x\n", "panic: Runtime error: x\n", "panic: a runtime error: x\n",
		"panic: 01\n", "panic: -0\n", "panic: +1\n", "panic: 1_0\n", "panic: 0x1\n", "panic: 1.0\n", "panic: --1\n", "panic: -\n", "panic: 1a\n", "panic: 9223372036854775808\n", "panic: -9223372036854775809\n",
		"panic: \"\n", "panic: \"a\n", "panic: a\"\n", "panic: \"a\"b\"\n", "panic: \"a\\x\"\n", "panic: \"a\\\"\n", "panic: \"\x01\"\n", "panic: \"\x7f\"\n", "panic: \"é\"\n", "panic: \"\t\"\n", "panic: \"a\nb\"\n", "panic: \"a\" \n", "panic: \"a\"\"b\"\n",
		"panic: \"" + strings.Repeat("a", api.MaxText+1) + "\"\n", "panic: runtime error: a\tb\n", "panic: runtime error: a\x7f\n", "panic: runtime error: é\n", "panic: runtime error: a\x00\n", "panic: runtime error: a\r\n",
		"panic: [recovered]\n", "panic:  [recovered]\n", "panic: 1[recovered]\n", "panic: 1  [recovered]\n", "panic: 1 [recovered] \n", "panic: 1 [recovered] [recovered]\n", "panic: 1 [Recovered]\n", "panic: 1 [recovered]", "panic: 1 [recovered\n",
		"panic: runtime error: [recovered]\n", "panic: \"a\" [recovered] [recovered]\n", "\tpanic: 1\n", " panic: 1\n", "panic: 1\npanic: 2\n", "panic: 1\n\t\tpanic: 2\n", "panic: 1\n panic: 2\n", "panic: 1\n\tpanic: 2", "panic: 1\n\tpanic: x\n", "panic: x\n\tpanic: 1\n",
		"panic: 1\n\n", "\npanic: 1\n", "panic: 1\n\n\tpanic: 2\n", "panic: 1\n\t\n", "panic: 1\n\tpanic: 2\npanic: 3\n", "panic: 1\tpanic: 2\n", "panic: 1\n\tpanic: 2\n\n", "panic: runtime error: x",
	} {
		if l, e := Read(s); len(l) != 0 || e != api.ErrForm {
			t.Errorf("Read(%q): %s, %d", s, told(l), e)
		}
	}
}

// P10.3: crashes with something changed by chance.
func TestReadOfSpoiledCrashes(t *testing.T) {
	chance, all, right := rand.New(rand.NewSource(2)), values(), 0
	for range 100000 {
		s := Crash(byChance(chance, all))
		for range 1 + chance.Intn(2) {
			s = spoiled(chance, s)
		}
		if checkRead(t, s) {
			right++
		}
	}
	if right < 1000 {
		t.Errorf("only %d spoiled crashes are right", right)
	}
}

// P10.3: all short texts made of pieces of crashes.
func TestReadOfAllShortTexts(t *testing.T) {
	right := 0
	for _, a := range pieces() {
		for _, b := range pieces() {
			for _, c := range pieces() {
				for _, s := range []string{"panic: " + a + b + c + "\n", "panic: 1\n\tpanic: " + a + b + c + "\n", "panic: 1\n" + a + b + c, a + b + c} {
					if checkRead(t, s) {
						right++
					}
				}
			}
		}
	}
	if right < 500 {
		t.Errorf("only %d texts are right", right)
	}
}

// P10.3: what Crash tells of plain panics, with texts that can be told whole, is read as it was.
func TestReadUndoesCrash(t *testing.T) {
	chance := rand.New(rand.NewSource(3))
	for range 20000 {
		l := make([]api.Panic, chance.Intn(8))
		for i := range l {
			v := api.Value{Kind: api.VInt, N: int(chance.Uint64())}
			s := make([]byte, chance.Intn(api.MaxText+1))
			for k := range s {
				s[k] = "\n\t\"\\ ~a[]0"[chance.Intn(10)]
			}
			if chance.Intn(2) == 0 {
				v = api.Value{Kind: api.VText, S: string(s)}
			}
			l[i] = api.Panic{Serial: i, Value: v, Recovered: chance.Intn(2) == 0}
		}
		if got, e := Read(Crash(l)); told(got) != told(l) || e != api.OK {
			t.Fatalf("Read of the Crash of %s: %s, %d", told(l), told(got), e)
		}
	}
}

// P10.2, P10.3: many panics.
func TestManyPanics(t *testing.T) {
	l := make([]api.Panic, 20000)
	for i := range l {
		l[i] = api.Panic{Serial: i, Value: api.Value{Kind: api.VInt, N: i}, Recovered: i%3 == 0}
	}
	s := Crash(l)
	if !strings.HasPrefix(s, expectCrash(l[:3])) || strings.Count(s, "\n\tpanic: ") != len(l)-1 {
		t.Errorf("Crash of many panics begins with %q", s[:100])
	}
	if got, e := Read(s); told(got) != told(l) || e != api.OK {
		t.Errorf("Read of many panics: %d, %d", len(got), e)
	}
}

// P10.2: the panics in flight of chapter 9, as DOC.md's examples 1, 3 and 4 tell their crashes.
func TestCrashOfPlays(t *testing.T) {
	keep, rec := api.Event{Kind: api.EvDefer}, api.Event{Kind: api.EvRecover}
	number := func(n int) api.Event { return api.Event{Kind: api.EvPanic, V: api.Value{Kind: api.VInt, N: n}} }
	text := api.Event{Kind: api.EvPanic, V: api.Value{Kind: api.VText, S: "x"}}
	for _, x := range []struct {
		l    []api.Event
		want string
	}{
		{[]api.Event{keep, text, {Kind: api.EvReturn}}, "panic: \"x\"\n"},
		{[]api.Event{keep, number(1), number(2)}, "panic: 1\n\tpanic: 2\n"},
		{[]api.Event{keep, number(1), rec, number(2)}, "panic: 1 [recovered]\n\tpanic: 2\n"},
	} {
		s, _, _ := panics.Play(x.l)
		if got := Crash(s.Panics); got != x.want || s.End != api.EndCrash {
			t.Errorf("Crash of %+v: %q, not %q", x.l, got, x.want)
		}
	}
}

// P10.4
func TestEnding(t *testing.T) {
	words := map[int]string{
		api.EndDone: "done", api.EndCrash: "crash", api.EndExit: "exit", api.EndFuel: "fuel",
		api.EndMemory: "memory", api.EndDepth: "depth", api.EndOutput: "output", api.EndWild: "wild",
	}
	for _, end := range ends() {
		want, ok := words[end]
		if got, e := Ending(end); got != want || e != errorUnless(ok) {
			t.Errorf("Ending(%d): %q, %d, not %q", end, got, e, want)
		}
	}
}

// ends are all ends, and numbers that are none, those among them that look like one in fewer bits.
func ends() []int {
	l := []int{least, -1 << 32, -256, -255, 256, 257, 258, 259, 1 << 32, 1<<32 + 1, 1<<32 + 3, greatest}
	for end := -10; end <= 20; end++ {
		l = append(l, end)
	}
	return l
}

// errorUnless is ErrKind, unless all is right.
func errorUnless(ok bool) api.Errno {
	if ok {
		return api.OK
	}
	return api.ErrKind
}

// P10.4
func TestStatus(t *testing.T) {
	for _, end := range ends() {
		for _, n := range numbers() {
			want := 0
			switch {
			case end == 2:
				want = 2
			case end == 3:
				want = ((n % 256) + 256) % 256
			case end >= 4 && end <= 8:
				want = 3
			}
			if got, e := Status(end, n); got != want || e != errorUnless(end >= 1 && end <= 8) {
				t.Errorf("Status(%d, %d): %d, %d, not %d", end, n, got, e, want)
			}
		}
	}
}

// P10.4
func TestStatusOfExit(t *testing.T) {
	for n, want := range map[int]int{0: 0, 3: 3, 255: 255, 256: 0, 257: 1, -1: 255, -2: 254, -256: 0, least: 0, greatest: 255} {
		if got, e := Status(api.EndExit, n); got != want || e != api.OK {
			t.Errorf("Status(EndExit, %d): %d, %d, not %d", n, got, e, want)
		}
	}
}

// P10.5
func TestLines(t *testing.T) {
	for _, x := range []struct {
		o    api.Outcome
		want string
	}{
		{api.Outcome{End: api.EndDone}, "done 0\n"},
		{api.Outcome{End: api.EndDone, Out: "1\n", Steps: 5, Starts: []api.Start{{Frame: 1}}}, "1\ndone 0\n"},
		{api.Outcome{End: api.EndCrash, Out: "a\nb\n", Crash: "panic: 1\n\tpanic: 2\n", Status: 2}, "a\nb\npanic: 1\n\tpanic: 2\ncrash 2\n"},
		{api.Outcome{End: api.EndExit, Status: 254}, "exit 254\n"},
		{api.Outcome{End: api.EndFuel, Out: "x\n", Status: 3}, "x\nfuel 3\n"},
		{api.Outcome{End: api.EndMemory, Status: 3}, "memory 3\n"},
		{api.Outcome{End: api.EndDepth, Status: 3}, "depth 3\n"},
		{api.Outcome{End: api.EndOutput, Status: 3}, "output 3\n"},
		{api.Outcome{End: api.EndWild, Status: 3}, "wild 3\n"},
		// Out, Crash and Status are told as they are, whatever the end.
		{api.Outcome{End: api.EndDone, Out: "a", Crash: "b\x00\xff", Status: -7}, "ab\x00\xffdone -7\n"},
		{api.Outcome{End: api.EndExit, Status: 256}, "exit 256\n"},
		{api.Outcome{End: api.EndCrash, Status: greatest}, "crash 9223372036854775807\n"},
		{api.Outcome{End: api.EndWild, Status: least}, "wild -9223372036854775808\n"},
	} {
		if got, e := Lines(x.o); got != x.want || e != api.OK {
			t.Errorf("Lines(%+v): %q, %d, not %q", x.o, got, e, x.want)
		}
	}
}

// P10.5
func TestLinesRefuses(t *testing.T) {
	for _, end := range ends() {
		got, e := Lines(api.Outcome{End: end, Out: "a\n", Crash: "b\n", Status: 3})
		if e != errorUnless(end >= 1 && end <= 8) || e != api.OK && got != "" {
			t.Errorf("Lines of the end %d: %q, %d", end, got, e)
		}
	}
}

// P10.6
func TestValues(t *testing.T) {
	l := []api.Panic{
		{Value: api.Value{Kind: api.VInt, N: -1}, Serial: 4, Recovered: true, Aborted: true},
		{Value: api.Value{Kind: api.VText, S: "a\"\n\x01"}},
		{Value: api.Value{Kind: api.VErr, S: "runtime error: \xff"}},
		{Value: api.Value{Kind: api.VBool, N: 7}},
		{Value: api.Value{Kind: api.VNil}},
		{Value: api.Value{Kind: api.VList, L: []int{1, -2}}},
		{Value: api.Value{Kind: api.VPtr, N: 1}},
		{Value: api.Value{Kind: api.VFunc, N: 1}},
		{},
		{Value: api.Value{Kind: 9, N: 1, S: "x"}},
	}
	want := []string{"-1", "a\"\n\x01", "runtime error: \xff", "true", "nil", "[1 -2]", "pointer", "func", "", ""}
	if got := Values(l); !slices.Equal(got, want) {
		t.Errorf("Values: %q, not %q", got, want)
	}
	for _, none := range [][]api.Panic{nil, {}} {
		if got := Values(none); len(got) != 0 {
			t.Errorf("Values of no panics: %q", got)
		}
	}
}
