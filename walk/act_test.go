package walk

import (
	"fmt"
	"slices"
	"strings"
	"testing"

	"panicroad/api"
)

// P11.5: the examples of the whole.
func TestExamples(t *testing.T) {
	all(t, []program{
		{"defer func(n int) { println(n) }(1); panic(\"x\")", "1\npanic: \"x\"\ncrash 2\n"},
		{"println(func() (r int) { defer func() { recover(); r = 5 }(); panic(1) }())", "5\ndone 0\n"},
		{"defer func() { panic(2) }(); panic(1)", "panic: 1\n\tpanic: 2\ncrash 2\n"},
		{"defer func() { println(recover()); panic(2) }(); panic(1)", "1\npanic: 1 [recovered]\n\tpanic: 2\ncrash 2\n"},
		{"help := func() any { return recover() }; defer func() { println(help()) }(); panic(1)", "nil\npanic: 1\ncrash 2\n"},
		{"i := 0; for i < 3 { defer say(i); i = i + 1 }", "say 2\nsay 1\nsay 0\ndone 0\n"},
		{"defer say(1); exit(3)", "exit 3\n"},
		{"a := []int{1}; println(a[5])", crash("", "index out of range [5] with length 1")},
	})
}

// P11.5: who is given the panic by recover.
func TestRecover(t *testing.T) {
	all(t, []program{
		{"defer tell(1); defer tell(2); panic(3)", "tell 2 3\ntell 1 nil\ndone 0\n"},
		{"defer tell(1)", "tell 1 nil\ndone 0\n"},
		{"tell(1); panic(2)", "tell 1 nil\npanic: 2\ncrash 2\n"},
		{"defer func() { println(recover(), recover()) }(); panic(1)", "1 nil\ndone 0\n"},
		{"defer func() { tell(1) }(); panic(2)", "tell 1 nil\npanic: 2\ncrash 2\n"},
		{"defer func() { defer tell(1) }(); panic(2)", "tell 1 nil\npanic: 2\ncrash 2\n"},
		{"defer func() { defer tell(1); panic(3) }(); panic(2)", "tell 1 3\npanic: 2\ncrash 2\n"},
		{"defer func() { defer tell(1); println(recover()); panic(3) }(); panic(2)", "2\ntell 1 3\ndone 0\n"},
		{"defer func() { func() { defer tell(1); panic(3) }(); println(recover()) }(); panic(2)", "tell 1 3\n2\ndone 0\n"},
		{"defer func() { println(recover()) }(); defer func() { panic(2) }(); panic(1)", "2\ndone 0\n"},
		{"defer func() { println(recover()) }(); defer func() { recover(); panic(2) }(); panic(1)", "2\ndone 0\n"},
		{"defer func() { defer func() { defer func() { println(recover()) }(); panic(3) }(); panic(2) }(); panic(1)", "3\npanic: 1\n\tpanic: 2\ncrash 2\n"},
		{"defer func() { println(recover()) }(); defer func() { defer func() { panic(3) }(); panic(2) }(); panic(1)", "3\ndone 0\n"},
		{"func() { defer func() { recover() }(); panic(1) }(); println(recover()); panic(2)", "nil\npanic: 2\ncrash 2\n"},
		{"f := func() { println(recover()) }; defer f(); f(); panic(1)", "nil\n1\ndone 0\n"},
		{"defer say(toint(recover())); panic(1)", crash("", "no int in any")},
		{"defer tell(recover()); panic(1)", "tell nil 1\ndone 0\n"},
		{"f := func(n int) {}; f = func(n int) { defer func() { println(n, recover()) }(); if n > 0 { f(n - 1) }; panic(n) }; f(2)", "0 0\n1 1\n2 2\ndone 0\n"},
		{"defer func() { if recover() != nil { println(1); return }; println(2) }(); panic(0)", "1\ndone 0\n"},
		{"x := recover(); defer func() { x = recover(); println(x); x = nil; println(recover()) }(); panic(\"s\")", "s\nnil\ndone 0\n"},
	})
}

// P11.5: a panic that is recovered ends as soon as its deferred call has returned, and not ahead of that.
func TestRecovered(t *testing.T) {
	all(t, []program{
		{"println(func() int { defer func() { recover() }(); println(1); panic(2); println(3); return 4 }()); println(5)", "1\n0\n5\ndone 0\n"},
		{"f := func() { defer say(1); defer func() { recover() }(); defer say(2); panic(3) }; f(); println(4)", "say 2\nsay 1\n4\ndone 0\n"},
		{"f := func() { defer func() { recover(); defer tell(1) }(); panic(3) }; f(); println(4)", "tell 1 nil\n4\ndone 0\n"},
		{"f := func() { defer func() { recover(); panic(9) }(); panic(3) }; defer tell(1); f(); println(4)", "tell 1 9\ndone 0\n"},
		{"defer func() { defer func() { println(recover()) }(); recover(); panic(9) }(); panic(3)", "9\ndone 0\n"},
		{"func() { defer func() { recover() }(); defer func() { panic(2) }(); defer func() { panic(3) }(); panic(1) }(); panic(4)", "panic: 4\ncrash 2\n"},
		{"defer func() { func() { defer func() { recover() }(); defer func() { panic(2) }(); panic(3) }(); panic(4) }(); panic(1)", "panic: 1\n\tpanic: 4\ncrash 2\n"},
		{"defer func() { recover(); func() { defer func() { recover() }(); panic(2) }(); panic(3) }(); panic(1)", "panic: 1 [recovered]\n\tpanic: 3\ncrash 2\n"},
		{"defer func() { panic(3) }(); defer func() { recover(); panic(2) }(); panic(1)", "panic: 1 [recovered]\n\tpanic: 2\n\tpanic: 3\ncrash 2\n"},
		{"defer func() { panic(recover()) }(); defer func() { panic(recover()) }(); panic(\"a\")", "panic: \"a\" [recovered]\n\tpanic: \"a\" [recovered]\n\tpanic: \"a\"\ncrash 2\n"},
		{"i := 0; for i < 3 { func() { defer func() { println(i, recover()) }(); panic(i * i) }(); i = i + 1 }", "0 0\n1 1\n2 4\ndone 0\n"},
		{"i := 0; for i < 3 { defer func() { println(recover()); panic(\"again\") }(); i = i + 1 }; panic(\"first\")", "first\nagain\nagain\npanic: \"first\" [recovered]\n\tpanic: \"again\" [recovered]\n\tpanic: \"again\" [recovered]\n\tpanic: \"again\"\ncrash 2\n"},
		{"defer func() { recover() }(); defer func() { panic(1) }()", "done 0\n"},
		{"defer say(1); defer func() { panic(2) }(); defer say(3)", "say 3\nsay 1\npanic: 2\ncrash 2\n"},
		{"func() { defer say(1); panic(2) }(); println(3)", "say 1\npanic: 2\ncrash 2\n"},
	})
}

// startsText tells which deferred calls were started: each by its activation's number, the place of its NDefer among all, and r or p.
func startsText(tree []api.Node, l []api.Start) string {
	var sites []int
	for at, n := range tree {
		if n.Kind == api.NDefer {
			sites = append(sites, at)
		}
	}
	var told []string
	for _, s := range l {
		told = append(told, fmt.Sprintf("%d.%d%s", s.Frame, slices.Index(sites, s.Site), []string{"?", "r", "p"}[s.Mark]))
	}
	return strings.Join(told, " ")
}

// P11.5
func TestStarts(t *testing.T) {
	for _, x := range []struct{ statements, want string }{
		{"", ""},
		{"nothing(); panic(1)", ""},
		{"defer nothing()", "0.0r"},
		{"defer nothing(); defer nothing(); defer nothing()", "0.2r 0.1r 0.0r"},
		{"defer nothing(); defer nothing(); panic(1)", "0.1p 0.0p"},
		{"defer nothing(); defer tell(1); defer nothing(); panic(1)", "0.2p 0.1p 0.0r"},
		{"defer nothing(); defer func() { panic(1) }(); defer nothing()", "0.2r 0.1r 0.0p"},
		{"defer nothing(); exit(1)", ""},
		{"defer nothing(); defer func() { exit(1) }()", "0.1r"},
		{"i := 0; for i < 3 { defer nothing(); i = i + 1 }", "0.0r 0.0r 0.0r"},
		{"f := func() { defer nothing() }; f(); f(); nothing(); f()", "1.0r 3.0r 6.0r"},
		{"nothing(); defer nothing(); some(some(1))", "0.0r"},
		{"nothing(); func() { defer nothing() }()", "2.0r"},
		{"func() { defer nothing() }(); func() { defer nothing() }()", "1.0r 3.1r"},
		{"f := func() { defer nothing() }; defer f(); panic(1)", "0.1p 1.0r"},
		{"defer func() { defer func() { defer nothing(); recover() }(); panic(2) }(); panic(1)", "0.2p 1.1p 2.0r"},
		{"defer nothing(); func() { defer nothing(); func() { defer nothing(); panic(1) }() }()", "2.2p 1.1p 0.0p"},
		{"var f func(int); f = func(n int) { defer nothing(); if n > 0 { f(n - 1) } }; f(2)", "3.0r 2.0r 1.0r"},
		{"if false { defer nothing() }; if true { defer nothing() }", "0.1r"},
		{"var f func(); defer f()", ""},
		{"defer some(some(1)); nothing()", "0.0r"},
		{"for { println(\"" + strings.Repeat("x", 199) + "\"); defer nothing() }", ""},
		{"defer nothing(); defer func() { for { println(\"" + strings.Repeat("x", 199) + "\") } }()", "0.1r"},
		{"defer nothing(); defer func() { for {} }()", "0.1r"},
	} {
		src := body(x.statements)
		o := ran(t, src, 1000)
		if got := startsText(treeOf(t, src), o.Starts); got != x.want {
			t.Errorf("%s: %s, not %s", x.statements, got, x.want)
		}
	}
}

// P11.6
func TestOutcomes(t *testing.T) {
	for _, x := range []struct {
		statements string
		fuel       int
		want       api.Outcome
	}{
		{"println(1)", 100, api.Outcome{End: api.EndDone, Out: "1\n", Steps: 2}},
		{"println(1); panic(\"a\")", 100, api.Outcome{End: api.EndCrash, Out: "1\n", Crash: "panic: \"a\"\n", Status: 2, Steps: 3}},
		{"println(1); exit(-2)", 100, api.Outcome{End: api.EndExit, Out: "1\n", Status: 254, Steps: 3}},
		{"println(1); for {}", 100, api.Outcome{End: api.EndFuel, Out: "1\n", Status: 3, Steps: 100}},
		{"println(1); main()", 1000, api.Outcome{End: api.EndDepth, Out: strings.Repeat("1\n", 30), Status: 3, Steps: 91}},
		{"println(1); s := \"" + strings.Repeat("x", 199) + "\"; for { println(s) }", 1000, api.Outcome{End: api.EndOutput, Out: "1\n" + strings.Repeat(strings.Repeat("x", 199)+"\n", 9), Status: 3, Steps: 24}},
		{"defer func() { exit(7) }(); panic(1)", 100, api.Outcome{End: api.EndExit, Status: 7, Steps: 5}},
		{"defer func() { for {} }(); panic(1)", 100, api.Outcome{End: api.EndFuel, Status: 3, Steps: 100}},
		{"defer main(); panic(1)", 1000, api.Outcome{End: api.EndDepth, Status: 3, Steps: 91}},
	} {
		o := ran(t, body(x.statements), x.fuel)
		o.Starts = nil
		if !sameOutcome(o, x.want) {
			t.Errorf("%s: %+v, not %+v", x.statements, o, x.want)
		}
	}
}

// P11.5 and P11.6: as many panics in flight as there is fuel for.
func TestManyPanics(t *testing.T) {
	const most = 3000
	src := "func main() { i := 0; for i < " + fmt.Sprint(most) + " { i = i + 1; defer func() { panic(2) }() }; panic(1) }"
	o := ran(t, src, api.MaxFuel)
	if o.End != api.EndCrash || o.Crash != "panic: 1\n"+strings.Repeat("\tpanic: 2\n", most) || len(o.Starts) != most {
		t.Errorf("%d, %d bytes, %d starts", o.End, len(o.Crash), len(o.Starts))
	}
	o = ran(t, "func main() { f(); panic(7) }\nfunc f() { defer func() { println(recover()) }()\n"+src[14:strings.LastIndex(src, "}")]+"}", api.MaxFuel)
	if o.End != api.EndCrash || o.Crash != "panic: 7\n" || o.Out != "2\n" {
		t.Errorf("%+.300v", o)
	}
}
