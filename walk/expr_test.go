package walk

import (
	"strconv"
	"strings"
	"testing"

	"panicroad/api"
)

// P11.4
func TestNumbers(t *testing.T) {
	all(t, []program{
		{"println(7 + 2, 7 - 2, 7 * 2, 7 / 2, 7 % 2, 7 << 2, 7 >> 2, 7 & 2, 7 | 8, 7 ^ 2)", "9 5 14 3 1 28 1 2 15 5\ndone 0\n"},
		{"println(-7 / 2, -7 % 2, -7 >> 1, -(-7), - -7, 2 - 3 - 4)", "-3 -1 -4 7 7 -5\ndone 0\n"},
		{"m := 1 << 63; println(m, m - 1, -m, m / -1, m % -1, m * -1, 1 << 64, m >> 70)", "-9223372036854775808 9223372036854775807 -9223372036854775808 -9223372036854775808 0 -9223372036854775808 0 -1\ndone 0\n"},
		{"println(1 < 2, 2 < 1, 1 <= 1, 1 > 1, 1 >= 1, 2 > 1, 1 == 1, 1 != 1, 1 == 2, 1 != 2)", "true false true false true true true false false true\ndone 0\n"},
		{"m := 1 << 63; println(m < 1, m > 1, m - 1 > 1)", "true false true\ndone 0\n"},
		{"println(1 / say(0))", crash("say 0\n", "integer divide by zero")},
		{"println(1 % say(0))", crash("say 0\n", "integer divide by zero")},
		{"println(1 << say(-1))", crash("say -1\n", "negative shift amount")},
		{"println(1 >> say(-1))", crash("say -1\n", "negative shift amount")},
		{"println(0 * -1, 0 << 0, 1 & 0, 5 + -5)", "0 0 0 0\ndone 0\n"},
	})
}

// P11.4: && || ! == and !=
func TestBools(t *testing.T) {
	all(t, []program{
		{"println(yes(false) && yes(true))", "yes false\nfalse\ndone 0\n"},
		{"println(yes(true) && yes(false))", "yes true\nyes false\nfalse\ndone 0\n"},
		{"println(yes(true) && yes(true))", "yes true\nyes true\ntrue\ndone 0\n"},
		{"println(yes(true) || yes(false))", "yes true\ntrue\ndone 0\n"},
		{"println(yes(false) || yes(true))", "yes false\nyes true\ntrue\ndone 0\n"},
		{"println(yes(false) || yes(false))", "yes false\nyes false\nfalse\ndone 0\n"},
		{"println(true || 1 / 0 == 1, false && 1 / 0 == 1)", "true false\ndone 0\n"},
		{"println(false || 1 / say(0) == 1)", crash("say 0\n", "integer divide by zero")},
		{"println(1 / say(0) == 1 || yes(true))", crash("say 0\n", "integer divide by zero")},
		{"println(1 / say(0) == 1 && yes(true))", crash("say 0\n", "integer divide by zero")},
		{"println(!true, !false, true == true, true == false, true != false, false != false)", "false true true false true false\ndone 0\n"},
		{"a := true || false && false; println(a, (true || false) && false)", "true false\ndone 0\n"},
	})
}

// P11.4: == and != with nil.
func TestNil(t *testing.T) {
	all(t, []program{
		{"var a any; var l []int; var p *int; var f func(); println(a == nil, l == nil, p == nil, f == nil, nil == a, nil == l, nil == p, nil == f)", "true true true true true true true true\ndone 0\n"},
		{"var a any; var l []int; var p *int; var f func(); println(a != nil, l != nil, p != nil, f != nil, nil != a, nil != l, nil != p, nil != f)", "false false false false false false false false\ndone 0\n"},
		{"n := 0; var a any; a = 0; println(a == nil, []int{} == nil, &n == nil, nothing == nil, nil == a, nil == []int{}, nil != &n, nil != nothing)", "false false false false false false true true\ndone 0\n"},
		{"var a any; a = \"\"; println(a == nil, a != nil); a = nil; println(a == nil)", "false true\ntrue\ndone 0\n"},
		{"defer func() { e := recover(); println(e == nil, e != nil, nil == e) }(); println(1 / 0)", "false true false\ndone 0\n"},
		{"var l []int; println(l[:] == nil, append(l, 1) == nil, l == nil)", "false false true\ndone 0\n"},
		{"println(list(nil) == nil, nil != point(nil))", "list nil\npoint nil\ntrue false\ndone 0\n"},
	})
}

// P11.4
func TestTexts(t *testing.T) {
	all(t, []program{
		{`println("a" + "b" + "", "" + "", "x\ty\n" + "\"\\")`, "ab  x\ty\n\"\\\ndone 0\n"},
		{`println("a" == "a", "a" != "a", "a" == "b", "a" == "", "a" < "b", "a" < "ab", "b" < "ab", "" < "a", "a" <= "a", "a" >= "b", "b" > "a")`, "true false false false true true false true true false true\ndone 0\n"},
		{`println("abc"[0], "abc"[2], "~"[0], "\n"[0], len("abc"), len(""))`, "97 99 126 10 3 0\ndone 0\n"},
		{`println("abc"[1:2], "abc"[:2], "abc"[1:], "abc"[:], "abc"[3:], "abc"[0:0], "abc"[1:1] + "|")`, "b ab bc abc   |\ndone 0\n"},
		{`println("abc"[say(3)])`, crash("say 3\n", "index out of range [3] with length 3")},
		{`println("abc"[-1])`, crash("", "index out of range [-1] with length 3")},
		{`println(""[0])`, crash("", "index out of range [0] with length 0")},
		{`println("abc"[:4])`, crash("", "slice bounds out of range [:4] with length 3")},
		{`println("abc"[1:-1])`, crash("", "slice bounds out of range [:-1] with length 3")},
		{`println("abc"[2:1])`, crash("", "slice bounds out of range [2:1]")},
		{`println("abc"[4:])`, crash("", "slice bounds out of range [4:3]")},
		{`println("abc"[-1:])`, crash("", "slice bounds out of range [-1:]")},
		{`println(text("abc")[say(9):say(-8)])`, crash("text abc\nsay 9\nsay -8\n", "slice bounds out of range [:-8] with length 3")},
	})
}

// P11.4: a text of MaxText bytes and no longer one.
func TestLongTexts(t *testing.T) {
	const most = api.MaxText
	half := strconv.Quote(strings.Repeat("x", most/2))
	all(t, []program{
		{"s := " + half + " + " + half + "; println(len(s)); println(len(s + \"\"), len(\"\" + s), len(s[1:] + \"y\"))", "200\n200 200 200\ndone 0\n"},
		{"s := " + half + " + " + half + "; println(s + \"y\")", crash("", "length 201 is above 200")},
		{"s := " + half + " + " + half + "; println(\"y\" + s)", crash("", "length 201 is above 200")},
		{"s := " + half + " + " + half + "; println(s + s)", crash("", "length 400 is above 200")},
	})
}

// P11.4
func TestLists(t *testing.T) {
	all(t, []program{
		{"println([]int{}, []int{1}, []int{1, -2, 3}, len([]int{}), len([]int{4, 5}))", "[] [1] [1 -2 3] 0 2\ndone 0\n"},
		{"println([]int{4, 5}[0], []int{4, 5}[1])", "4 5\ndone 0\n"},
		{"l := []int{1, 2, 3}; println(l[1:2], l[:2], l[1:], l[:], l[3:], l[0:0])", "[2] [1 2] [2 3] [1 2 3] [] []\ndone 0\n"},
		{"l := []int{1, 2}; m := l[:]; n := append(l, 3); m[0] = 8; n[1] = 9; println(l, m, n); l[0] = 7; println(l, m, n)", "[1 2] [8 2] [1 9 3]\n[7 2] [8 2] [1 9 3]\ndone 0\n"},
		{"l := append([]int{1}, 2); m := append(l, 3); n := append(l, 4); println(l, m, n)", "[1 2] [1 2 3] [1 2 4]\ndone 0\n"},
		{"l := append(append([]int{1}, 2), 3); m := append(l, 4); n := append(l, 5); println(l, m, n, append(l[:2], 6), l)", "[1 2 3] [1 2 3 4] [1 2 3 5] [1 2 6] [1 2 3]\ndone 0\n"},
		{"l := []int{1}; func(m []int) { m[0] = 5; m = nil }(l); println(l)", "[5]\ndone 0\n"},
		{"i := 0; for i < 2 { l := []int{0}; println(l); l[0] = 5; i = i + 1 }", "[0]\n[0]\ndone 0\n"},
		{"l := []int{1, 2, 3}[1:]; println(len(l)); l[1] = 9; println(l, append(l, 4))", "2\n[2 9] [2 9 4]\ndone 0\n"},
		{"var l []int; println(len(l), l[:], l[0:], l[:0], append(l, 1), l)", "0 [] [] [] [1] nil\ndone 0\n"},
		{"var l []int; m := l[0:0]; println(m, len(m), m == nil)", "[] 0 false\ndone 0\n"},
		{"var l []int; println(l[0])", crash("", "index out of range [0] with length 0")},
		{"var l []int; println(l[:1])", crash("", "slice bounds out of range [:1] with length 0")},
		{"var l []int; println(l[1:])", crash("", "slice bounds out of range [1:0]")},
		{"println([]int{1}[say(1)])", crash("say 1\n", "index out of range [1] with length 1")},
		{"println([]int{1}[-1])", crash("", "index out of range [-1] with length 1")},
		{"println([]int{1, 2}[say(2):say(1)])", crash("say 2\nsay 1\n", "slice bounds out of range [2:1]")},
		{"println([]int{1, 2}[:3])", crash("", "slice bounds out of range [:3] with length 2")},
		{"println([]int{1, 2}[-1:])", crash("", "slice bounds out of range [-1:]")},
	})
}

// P11.4: a list of MaxList elements and no longer one.
func TestLongLists(t *testing.T) {
	ones := func(n int) string { return "[]int{" + strings.Repeat("1, ", n-1) + "say(1)}" }
	all(t, []program{
		{"l := " + ones(api.MaxList) + "; println(len(l), len(append(l[1:], 2)))", "say 1\n100 100\ndone 0\n"},
		{"l := " + ones(api.MaxList+1) + "; println(len(l))", crash("say 1\n", "length 101 is above 100")},
		{"l := " + ones(api.MaxList) + "; println(append(l, say(2)))", crash("say 1\nsay 2\n", "length 101 is above 100")},
		{"var l []int; for { l = append(l, 7); if len(l) == 100 { println(len(l)) } }", crash("100\n", "length 101 is above 100")},
	})
}

// P11.4: pointers, functions and calls.
func TestPointersAndFunctions(t *testing.T) {
	all(t, []program{
		{"a := 1; p := &a; a = 2; println(*p, *&a, *point(p))", "point pointer\n2 2 2\ndone 0\n"},
		{"var p *int; println(*p)", crash("", nilCrash)},
		{"println(*point(nil) + say(1))", crash("point nil\n", nilCrash)},
		{"var f func(int) int; println(f(say(1)))", crash("say 1\n", nilCrash)},
		{"fun(nil)(say(1), say(2))", crash("fun nil\nsay 1\nsay 2\n", nilCrash)},
		{"fun(nil)(say(1), 1 / say(0))", crash("fun nil\nsay 1\nsay 0\n", "integer divide by zero")},
		{"println(fun(func(a int, b int) int { return a - b })(say(5), say(3)))", "fun func\nsay 5\nsay 3\n2\ndone 0\n"},
		{"x := 1; f := func() func() int { return func() int { x = x * 2; return x } }; g := f(); h := f(); println(g(), h(), g(), x)", "2 4 8 8\ndone 0\n"},
		{"f := func(n int) func() int { return func() int { n = n + 1; return n } }; a := f(10); b := f(20); println(a(), b(), a(), b())", "11 21 12 22\ndone 0\n"},
		{"var f func(int) int; f = func(n int) int { if n < 2 { return 1 }; return n * f(n - 1) }; g := f; f = nil; println(g == nil); println(g(1)); println(g(2))", crash("false\n1\n", nilCrash)},
		{"var f func(int) int; f = func(n int) int { if n < 2 { return 1 }; return n * f(n - 1) }; println(f(10))", "3628800\ndone 0\n"},
		{"a := 1; b := 2; c := 3; f := func() { b = b + 10; func() { a = a + b; c = c + a }() }; f(); println(a, b, c); f(); println(a, b, c)", "13 12 16\n35 22 51\ndone 0\n"},
		{"x := 1; f := func() int { return x }; { x := 5; x = x + 1; println(f(), x) }; x = 2; println(f())", "1 6\n2\ndone 0\n"},
		{"println(say, nothing, func() {}, tell == nil)", "func func func false\ndone 0\n"},
		{"f := say; println(f(2), (say)(3))", "say 2\nsay 3\n2 3\ndone 0\n"},
		{"x := 1; println(x, func() int { x = 2; return x }(), x)", "1 2 2\ndone 0\n"},
	})
}

// P11.4: from the left to the right.
func TestOrder(t *testing.T) {
	all(t, []program{
		{"println(say(1) + say(2) * say(3), say(4))", "say 1\nsay 2\nsay 3\nsay 4\n7 4\ndone 0\n"},
		{"println(say(1) < say(2), say(2) == say(1))", "say 1\nsay 2\nsay 2\nsay 1\ntrue false\ndone 0\n"},
		{"println(list([]int{say(1), say(2)})[say(1)])", "say 1\nsay 2\nlist [1 2]\nsay 1\n2\ndone 0\n"},
		{"println(list([]int{1, 2})[say(0):say(1)])", "list [1 2]\nsay 0\nsay 1\n[1]\ndone 0\n"},
		{"println(append(list(nil), say(1)))", "list nil\nsay 1\n[1]\ndone 0\n"},
		{"println(text(\"a\") + text(\"b\"))", "text a\ntext b\nab\ndone 0\n"},
		{"x := 1; y := x + func() int { x = 10; return x }() + x; println(y)", "21\ndone 0\n"},
		{"println(say(1), 1 / say(0), say(2))", crash("say 1\nsay 0\n", "integer divide by zero")},
		{"println([]int{say(1), 1 / say(0), say(2)})", crash("say 1\nsay 0\n", "integer divide by zero")},
		{"println(list([]int{1})[say(5)] + say(6))", crash("list [1]\nsay 5\n", "index out of range [5] with length 1")},
		{"println(-say(1) + -say(2), !yes(true) == yes(false))", "say 1\nsay 2\nyes true\nyes false\n-3 true\ndone 0\n"},
		{"l := []int{1}; println(l, func() []int { l[0] = 2; return l }(), l[0])", "[2] [2] 2\ndone 0\n"},
	})
}

// P11.4: toint and isint.
func TestAny(t *testing.T) {
	all(t, []program{
		{"println(toint(some(7)), isint(some(7)), isint(some(\"7\")), isint(some(nil)), isint(some(0)))", "7 true false false true\ndone 0\n"},
		{"println(toint(some(\"7\")))", crash("", "no int in any")},
		{"println(toint(some(nil)))", crash("", "no int in any")},
		{"defer func() { e := recover(); println(isint(e)); println(toint(e)) }(); println(1 / 0)", "false\npanic: runtime error: integer divide by zero [recovered]\n\tpanic: runtime error: no int in any\ncrash 2\n"},
		{"var x any; x = 3; x = x; println(toint(x) + 1)", "4\ndone 0\n"},
	})
}

// P11.4: println.
func TestPrintln(t *testing.T) {
	all(t, []program{
		{"println()", "\ndone 0\n"},
		{"println(nil, 1, true, \"a b\", []int{1, 2}, some(\"x\"), some(3), some(nil), nothing)", "nil 1 true a b [1 2] x 3 nil func\ndone 0\n"},
		{"println(\"\", \"\")", " \ndone 0\n"},
		{"var f func(); var p *int; n := 1; println(f, p, &n)", "nil nil pointer\ndone 0\n"},
		{"defer func() { println(recover()) }(); println([]int{}[0])", "runtime error: index out of range [0] with length 0\ndone 0\n"},
	})
}

// P11.4: MaxOut bytes and no more.
func TestOutput(t *testing.T) {
	line := strings.Repeat("x", 199)
	full := strings.Repeat(line+"\n", api.MaxOut/200)
	loop := "i := 0; for i < 10 { println(\"" + line + "\"); i = i + 1 }"
	for _, x := range []struct{ statements, out, last string }{
		{loop, full, "done 0\n"},
		{loop + "; println()", full, "output 3\n"},
		{loop + "; println(); println(1)", full, "output 3\n"},
		{loop + "; defer say(1); panic(2)", full, "output 3\n"},
		{"defer tell(1); for { println(\"" + line + "\") }", full, "output 3\n"},
		{"i := 0; for i < 9 { println(\"" + line + "\"); i = i + 1 }; println(\"" + line + "x\"); println(1)", full[200:], "output 3\n"},
		{"i := 0; for i < 9 { println(\"" + line + "\"); i = i + 1 }; println(\"" + line[:198] + "\"); println(\"\"); println(\"\")", full[:1998] + "\n\n", "output 3\n"},
		{"i := 0; for i < 9 { println(\"" + line + "\"); i = i + 1 }; println(\"" + line + "\", \"\")", full[200:], "output 3\n"},
	} {
		lines(t, x.statements, x.out+x.last)
	}
}

// P11.4: panic, exit and recover.
func TestPanicAndExit(t *testing.T) {
	all(t, []program{
		{"panic(say(7))", "say 7\npanic: 7\ncrash 2\n"},
		{"panic(-7)", "panic: -7\ncrash 2\n"},
		{`panic("a\"b\n")`, "panic: \"a\\\"b\\n\"\ncrash 2\n"},
		{"panic(some(7))", "panic: 7\ncrash 2\n"},
		{"panic(some(\"x\"))", "panic: \"x\"\ncrash 2\n"},
		{"panic(some(nil))", crash("", "panic called with nil")},
		{"var x any; panic(x)", crash("", "panic called with nil")},
		{"panic(recover())", crash("", "panic called with nil")},
		{"panic(1 / say(0))", crash("say 0\n", "integer divide by zero")},
		{"defer func() { println(recover()) }(); panic(some(nil))", "runtime error: panic called with nil\ndone 0\n"},
		{"println(1); exit(3); println(2)", "1\nexit 3\n"},
		{"exit(say(0))", "say 0\nexit 0\n"},
		{"exit(256)", "exit 0\n"},
		{"exit(-1)", "exit 255\n"},
		{"exit(511 + 256)", "exit 255\n"},
		{"exit(1 / say(0))", crash("say 0\n", "integer divide by zero")},
		{"println(func() int { exit(4); return 1 }())", "exit 4\n"},
		{"defer say(1); func() { defer say(2); exit(5) }()", "exit 5\n"},
		{"defer func() { exit(6) }(); panic(1)", "exit 6\n"},
		{"defer func() { println(recover()); exit(6) }(); panic(1)", "1\nexit 6\n"},
		{"println(recover(), recover())", "nil nil\ndone 0\n"},
	})
}

// P11.4: every run-time error, recovered, is a value that is no int, is not nil, and may be panicked with again.
func TestFaultsAreValues(t *testing.T) {
	faults := map[string]string{
		"println([]int{1}[7])":          "index out of range [7] with length 1",
		"println(1 / 0)":                "integer divide by zero",
		"println(1 << -1)":              "negative shift amount",
		"var p *int; *p = 1":            nilCrash,
		"println(\"a\"[2:])":            "slice bounds out of range [2:1]",
		"println(toint(some(\"1\")))":   "no int in any",
		"s := \"a\"; for { s = s + s }": "length 256 is above 200",
		"panic(some(nil))":              "panic called with nil",
	}
	for statements, told := range faults {
		caught := "defer func() { e := recover(); println(e, isint(e), e == nil); panic(e) }(); " + statements
		line := "panic: runtime error: " + told
		lines(t, caught, "runtime error: "+told+" false false\n"+line+" [recovered]\n\t"+line+"\ncrash 2\n")
	}
}
