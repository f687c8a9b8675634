package walk

import "testing"

// P11.3: var, :=, =
func TestVariables(t *testing.T) {
	all(t, []program{
		{"var a int; var b bool; var c string; var d any; var e []int; var f *int; var g func(int) any; println(a, b, c, d, e, f, g)", "0 false  nil nil nil nil\ndone 0\n"},
		{"a := 1; b := true; c := \"x\"; d := some(2); e := []int{3}; f := &a; g := nothing; println(a, b, c, d, e, f, g)", "1 true x 2 [3] pointer func\ndone 0\n"},
		{"a := 1; b := a; a = 2; println(a, b)", "2 1\ndone 0\n"},
		{"a := 5; func() { defer func() { recover() }(); a = 1 / 0 }(); println(a)", "5\ndone 0\n"},
		{"a := 1; { a := a + 1; a = a + 1; println(a) }; println(a)", "3\n1\ndone 0\n"},
		{"var x any; x = 1; println(x); x = \"s\"; println(x); x = nil; println(x)", "1\ns\nnil\ndone 0\n"},
		{"f := nothing; f = nil; println(f == nil)", "true\ndone 0\n"},
		{"l := []int{1}; l = nil; println(l, len(l))", "nil 0\ndone 0\n"},
	})
}

// P11.3: = through pointers and into lists.
func TestPlaces(t *testing.T) {
	all(t, []program{
		{"a := 1; p := &a; *p = 2; println(a, *p); a = 3; println(*p)", "2 2\n3\ndone 0\n"},
		{"a := 1; b := 2; p := &a; q := p; p = &b; *p = 5; *q = 6; println(a, b)", "6 5\ndone 0\n"},
		{"var p *int; *p = 1", crash("", nilCrash)},
		{"var p *int; *p = say(1)", crash("say 1\n", nilCrash)},
		{"a := 1; *point(&a) = say(2); println(a)", "point pointer\nsay 2\n2\ndone 0\n"},
		{"*point(nil) = 1 / say(0)", crash("point nil\nsay 0\n", "integer divide by zero")},
		{"l := []int{1, 2}; l[1] = 7; m := l; m[0] = 8; println(l, m)", "[8 7] [8 7]\ndone 0\n"},
		{"l := []int{1, 2}; list(l)[say(1)] = say(9); println(l)", "list [1 2]\nsay 1\nsay 9\n[1 9]\ndone 0\n"},
		{"list([]int{1})[say(1)] = say(9)", crash("list [1]\nsay 1\nsay 9\n", "index out of range [1] with length 1")},
		{"list([]int{1})[say(-1)] = 1 / say(0)", crash("list [1]\nsay -1\nsay 0\n", "integer divide by zero")},
		{"var l []int; l[0] = say(1)", crash("say 1\n", "index out of range [0] with length 0")},
		{"l := []int{1}; l[-1] = 1", crash("", "index out of range [-1] with length 1")},
		{"l := []int{1, 2}; i := 0; l[i] = func() int { i = 1; l = []int{}; return 5 }(); println(l, i)", "[] 1\ndone 0\n"},
		{"l := []int{1, 2}; m := l; i := 0; l[i] = func() int { i = 1; l = nil; return 5 }(); println(m)", "[5 2]\ndone 0\n"},
		{"a := 1; b := 2; p := &a; *p = func() int { p = &b; return 5 }(); println(a, b)", "5 2\ndone 0\n"},
		{"a := 1; a = a + func() int { a = 10; return 5 }(); println(a)", "6\ndone 0\n"},
	})
}

// P11.3: if, for, break, continue.
func TestBranches(t *testing.T) {
	all(t, []program{
		{"if yes(true) { println(1) } else { println(2) }", "yes true\n1\ndone 0\n"},
		{"if yes(false) { println(1) } else { println(2) }", "yes false\n2\ndone 0\n"},
		{"if yes(false) { println(1) }; println(2)", "yes false\n2\ndone 0\n"},
		{"if yes(false) { println(1) } else if yes(true) { println(2) } else { println(3) }", "yes false\nyes true\n2\ndone 0\n"},
		{"if yes(false) { println(1) } else if yes(false) { println(2) } else { println(3) }", "yes false\nyes false\n3\ndone 0\n"},
		{"if yes(true) { println(1) } else if yes(true) { println(2) }", "yes true\n1\ndone 0\n"},
		{"for yes(false) { println(1) }; println(2)", "yes false\n2\ndone 0\n"},
		{"i := 0; for i < 2 { println(i); i = i + 1 }; println(i)", "0\n1\n2\ndone 0\n"},
		{"for { println(1); break; println(2) }; println(3)", "1\n3\ndone 0\n"},
		{"i := 0; for i < 3 { i = i + 1; if i == 2 { continue }; println(i) }", "1\n3\ndone 0\n"},
		{"i := 0; for i < 2 { i = i + 1; for { if true { break }; println(9) }; println(i) }", "1\n2\ndone 0\n"},
		{"i := 0; for i < 3 { i = i + 1; j := 0; for j < 3 { j = j + 1; if j == i { continue }; if j > 2 { break }; println(i, j) } }", "1 2\n2 1\n3 1\n3 2\ndone 0\n"},
		{"for yes(1 / say(0) == 1) { println(1) }", crash("say 0\n", "integer divide by zero")},
		{"if 1 / say(0) == 1 { println(1) } else { println(2) }", crash("say 0\n", "integer divide by zero")},
		{"for { { { break } } }; println(1)", "1\ndone 0\n"},
	})
}

// P11.3: a block's variables are new each time.
func TestNewVariables(t *testing.T) {
	all(t, []program{
		{"i := 0; for i < 3 { var a int; println(a); a = 7; i = i + 1 }", "0\n0\n0\ndone 0\n"},
		{"i := 0; var f func() int; var g func() int; for i < 2 { a := i; if i == 0 { f = func() int { a = a + 10; return a } } else { g = func() int { a = a + 10; return a } }; i = i + 1 }; println(f(), g(), f(), g())", "10 11 20 21\ndone 0\n"},
		{"i := 0; var p *int; for i < 3 { a := i; if i == 1 { p = &a }; a = a + 100; i = i + 1 }; println(*p)", "101\ndone 0\n"},
		{"i := 0; for i < 3 { defer func() { println(i) }(); i = i + 1 }", "3\n3\n3\ndone 0\n"},
		{"i := 0; for i < 3 { j := i; defer func() { println(j) }(); i = i + 1 }", "2\n1\n0\ndone 0\n"},
		{"f := func() *int { a := 1; return &a }; p := f(); q := f(); *p = 5; println(*p, *q)", "5 1\ndone 0\n"},
		{"f := func(a int) *int { return &a }; b := 1; p := f(b); *p = 5; println(*p, b, *f(b))", "5 1 1\ndone 0\n"},
	})
}

// P11.3: return, and a result's variable.
func TestResults(t *testing.T) {
	all(t, []program{
		{"println(func() int { return 1; println(9) }())", "1\ndone 0\n"},
		{"println(func() int {}(), func() any {}(), func() string {}(), func() []int {}(), func() bool {}())", "0 nil  nil false\ndone 0\n"},
		{"println(func() (r int) { r = 3 }(), func() (r int) { r = 4; return }(), func() (r int) { r = 5; return r + 1 }())", "3 4 6\ndone 0\n"},
		{"println(func() (r int) { println(r); return }())", "0\n0\ndone 0\n"},
		{"println(func() (r int) { { r := 8; println(r); return } }())", "8\n0\ndone 0\n"},
		{"println(func() (r int) { defer func() { r = r * 2 }(); return 4 }())", "8\ndone 0\n"},
		{"println(func() (r int) { defer func() { r = 7 }(); panic(1) }())", "panic: 1\ncrash 2\n"},
		{"println(func() (r int) { r = 2; defer func() { recover(); r = r + 5 }(); panic(1) }())", "7\ndone 0\n"},
		{"println(func() int { defer func() { recover() }(); panic(1) }())", "0\ndone 0\n"},
		{"println(func() int { defer func() { recover() }(); defer func() { panic(2) }(); return 6 }())", "6\ndone 0\n"},
		{"println(func() (r int) { defer func() { recover() }(); return 1 / r }())", "0\ndone 0\n"},
		{"println(func() (r int) { p := &r; defer func() { *p = *p + 1 }(); return 1 }())", "2\ndone 0\n"},
		{"f := func(n int) (r int) { for { if n > 2 { return n }; n = n + 1 } }; println(f(0), f(9))", "3 9\ndone 0\n"},
		{"println(1); return; println(2)", "1\ndone 0\n"},
		{"println(func() any { return nil }(), func() any { return \"s\" }(), func() *int { return nil }())", "nil s nil\ndone 0\n"},
		{"func() int { return say(3) }()", "say 3\ndone 0\n"},
	})
}

// P11.3: defer.
func TestDefer(t *testing.T) {
	all(t, []program{
		{"defer say(say(1)); println(2)", "say 1\n2\nsay 1\ndone 0\n"},
		{"a := 1; defer say(a); a = 2; defer say(a)", "say 2\nsay 1\ndone 0\n"},
		{"defer fun(func(a int, b int) int { println(a, b); return a })(say(1), say(2)); println(3)", "fun func\nsay 1\nsay 2\n3\n1 2\ndone 0\n"},
		{"defer fun(nil)(say(1), say(2)); println(3)", crash("fun nil\nsay 1\nsay 2\n", nilCrash)},
		{"var f func(); defer f(); println(3)", crash("", nilCrash)},
		{"f := nothing; defer f(); f = nil; println(3)", "3\ndone 0\n"},
		{"defer fun(nil)(1 / say(0), 2)", crash("fun nil\nsay 0\n", "integer divide by zero")},
		{"if true { defer say(1) }; for { defer say(2); break }; { defer say(3) }; println(4)", "4\nsay 3\nsay 2\nsay 1\ndone 0\n"},
		{"l := []int{1}; defer list(l); l[0] = 2", "list [2]\ndone 0\n"},
	})
}
