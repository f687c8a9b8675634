package parse

import (
	"math/rand"
	"strings"
	"testing"

	"panicroad/api"
	"panicroad/scan"
)

// printed fails unless the tree of a source is printed so.
func printed(t *testing.T, src, want string) {
	t.Helper()
	tree, spot := Parse(src)
	got, e := Print(tree)
	if spot != (api.Spot{}) || e != api.OK || got != want {
		t.Errorf("Print of %q: %q, %d, %v; want %q", src, got, e, spot, want)
	}
}

// printedBody is printed of a main with one statement, that is a line.
func printedBody(t *testing.T, src, want string) {
	t.Helper()
	printed(t, body(src), "func main() {\n\t"+want+"\n}\n")
}

// P4.5
func TestPrintFunctions(t *testing.T) {
	printed(t, "", "")
	printed(t, ";;", "")
	printed(t, "func main(){};func g(){{}}", "func main() {}\nfunc g() {\n\t{}\n}\n")
	printed(t, "func f(a int){}", "func f(a int) {}\n")
	printed(t, "func f(a int,b string)(r int){}", "func f(a int, b string) (r int) {}\n")
	printed(t, "func f(a[]int,b*int,c any,d bool)[]int{}", "func f(a []int, b *int, c any, d bool) []int {}\n")
	printed(t, "func f()*int{}", "func f() *int {}\n")
	printed(t, "func f(g func(int,func(any,any)bool)func(int,int))func(int,int)any{}", "func f(g func(int, func(any, any)bool)func(int, int)) func(int, int)any {}\n")
	printed(t, "func f()(r func(int,int)){}", "func f() (r func(int, int)) {}\n")
}

// P4.5
func TestPrintStatements(t *testing.T) {
	for src, want := range map[string]string{
		"var  a  int": "var a int", "var a func(int,int)[]int": "var a func(int, int)[]int", "a:=1": "a := 1", "a=1": "a = 1", "*a=1": "*a = 1", "**a=1": "**a = 1", "*(a+b)=1": "*(a + b) = 1", "a[0]=1": "a[0] = 1", "(a+b)[0]=1": "(a + b)[0] = 1",
		"f( )": "f()", "f(1,2)": "f(1, 2)", "break": "break", "continue": "continue", "return": "return", "return a": "return a", "return(a)": "return a", "defer f()": "defer f()", "defer(f)(1)": "defer f(1)",
		"if a{}": "if a {}", "if a{}else{}": "if a {} else {}", "if a{}else if b{}": "if a {} else if b {}", "if a{}else if b{}else{}": "if a {} else if b {} else {}", "for{}": "for {}", "for(a){}": "for a {}", "{}": "{}", "{{}}": "{\n\t\t{}\n\t}",
		"if a{b()}":                           "if a {\n\t\tb()\n\t}",
		"if a{b()}else{c();d()}":              "if a {\n\t\tb()\n\t} else {\n\t\tc()\n\t\td()\n\t}",
		"if a{b()}else if c{d()}else{e()}":    "if a {\n\t\tb()\n\t} else if c {\n\t\td()\n\t} else {\n\t\te()\n\t}",
		"if a{}else if c{d()}":                "if a {} else if c {\n\t\td()\n\t}",
		"if a{}else{if b{}}":                  "if a {} else {\n\t\tif b {}\n\t}",
		"for{for a{b()}}":                     "for {\n\t\tfor a {\n\t\t\tb()\n\t\t}\n\t}",
		"{;a();;{b()};}":                      "{\n\t\ta()\n\t\t{\n\t\t\tb()\n\t\t}\n\t}",
		"defer func(a int)(r int){b()}(1)":    "defer func(a int) (r int) {\n\t\tb()\n\t}(1)",
		"a:=func()int{return 1}":              "a := func() int {\n\t\treturn 1\n\t}",
		"f(func(){a()},func(){b()},1)":        "f(func() {\n\t\ta()\n\t}, func() {\n\t\tb()\n\t}, 1)",
		"if func()bool{return a}(){b()}":      "if func() bool {\n\t\treturn a\n\t}() {\n\t\tb()\n\t}",
		"f(func(){g(func(){a()})})":           "f(func() {\n\t\tg(func() {\n\t\t\ta()\n\t\t})\n\t})",
		"a=[]int{func()int{return 1}(),2}[0]": "a = []int{func() int {\n\t\treturn 1\n\t}(), 2}[0]",
		"func(){}()":                          "func() {}()",
		"for func(){a()}==nil{b()}":           "for func() {\n\t\ta()\n\t} == nil {\n\t\tb()\n\t}",
		"func(){a()}()":                       "func() {\n\t\ta()\n\t}()",
	} {
		printedBody(t, src, want)
	}
}

// P4.5
func TestPrintExpressions(t *testing.T) {
	for src, want := range map[string]string{
		"0": "0", "9223372036854775807": "9223372036854775807", "true": "true", "false": "false", "nil": "nil", "a": "a", `""`: `""`, `"a\"\\\n\tb"`: `"a\"\\\n\tb"`,
		"((a))": "a", "-a": "-a", "- - a": "--a", "!(a)": "!a", "*(*a)": "**a", "&a": "&a", "*&a": "*&a", "-(a+b)": "-(a + b)", "!(a&&b)": "!(a && b)", "*(a*b)": "*(a * b)", "-(a*b)": "-(a * b)", "-(a)[0]": "-a[0]", "-f()": "-f()", "(-a)+(-b)": "-a + -b", "a-(-b)": "a - -b", "a&(&b)": "a & &b",
		"a+b-c": "a + b - c", "a+(b-c)": "a + (b - c)", "(a+b)*c": "(a + b) * c", "a+(b*c)": "a + b * c", "(a*b)+c": "a * b + c", "a*(b+c)": "a * (b + c)", "(a||b)&&c": "(a || b) && c", "a||(b&&c)": "a || b && c", "(a==b)==c": "a == b == c", "a==(b==c)": "a == (b == c)", "-(-(a+b))": "--(a + b)",
		"f(a)(b)": "f(a)(b)", "f((a+b),(c))": "f(a + b, c)", "(f)(a)": "f(a)", "(f+g)(a)": "(f + g)(a)", "(-f)(a)": "(-f)(a)", "(*f)(a)": "(*f)(a)", "(&f)(a)": "(&f)(a)", "(f())()": "f()()", "1(2)": "1(2)", "(\"a\")[0]": "\"a\"[0]", "(nil)[0]": "nil[0]",
		"a[b+c]": "a[b + c]", "(a+b)[c]": "(a + b)[c]", "(-a)[c]": "(-a)[c]", "(a[b])[c]": "a[b][c]", "a[:]": "a[:]", "a[b:]": "a[b:]", "a[:b]": "a[:b]", "a[b+c:(d)]": "a[b + c:d]", "(a+b)[:]": "(a + b)[:]", "(!a)[:]": "(!a)[:]", "(a[:])[:]": "a[:][:]",
		"[]int{}": "[]int{}", "[]int{1}": "[]int{1}", "[]int{1,(a+b)}": "[]int{1, a + b}", "[]int{1}[0]": "[]int{1}[0]", "([]int{})[:]": "[]int{}[:]", "func(){}": "func() {}", "func(a int,b any)int{}": "func(a int, b any) int {}", "func()(r int){}": "func() (r int) {}", "(func(){})()": "func() {}()", "func(){}==nil": "func() {} == nil",
	} {
		printedBody(t, "x := "+src, "x := "+want)
	}
}

// P4.5: each pair of signs, the one within the other on either side.
func TestPrintBrackets(t *testing.T) {
	name := func(text string) *shape { return made(api.Node{Kind: api.NName, Text: text}) }
	for _, out := range signs() {
		for _, in := range signs() {
			within := made(api.Node{Kind: api.NBinary, Text: in}, name("a"), name("b"))
			left, right := "a "+in+" b", "a "+in+" b"
			if binds(in) < binds(out) {
				left = "(" + left + ")"
			}
			if binds(in) <= binds(out) {
				right = "(" + right + ")"
			}
			for want, s := range map[string]*shape{
				left + " " + out + " c":  made(api.Node{Kind: api.NBinary, Text: out}, within, name("c")),
				"c " + out + " " + right: made(api.Node{Kind: api.NBinary, Text: out}, name("c"), within),
			} {
				tree := lay(made(api.Node{Kind: api.NFile}, inBlock(made(api.Node{Kind: api.NReturn}, s))))
				if got, e := Print(tree); e != api.OK || got != "func f() {\n\treturn "+want+"\n}\n" {
					t.Errorf("%q, %d; want %q", got, e, want)
				}
			}
		}
	}
}

// without is a text of tokens but for two of them.
func without(tokens []api.Token, a, b int) string {
	var out strings.Builder
	for i, tok := range tokens {
		if i != a && i != b {
			out.WriteString(tok.Text + " ")
		}
	}
	return out.String()
}

// closing is where the bracket that is opened at a token is closed.
func closing(tokens []api.Token, at int) int {
	for open := 0; ; at++ {
		switch tokens[at].Text {
		case "(":
			open++
		case ")":
			open--
		}
		if open == 0 {
			return at
		}
	}
}

// P4.5: what was printed has the tree again, is printed as it stands, and has no bracket too many.
func TestPrintAndBack(t *testing.T) {
	m := maker{rand.New(rand.NewSource(45))}
	for range 1500 {
		tree := lay(m.file())
		text, e := Print(tree)
		if e == api.ErrLong {
			continue
		}
		again, spot := Parse(text)
		if e != api.OK || spot != (api.Spot{}) || !sameTree(again, tree) {
			t.Fatalf("%v is printed as %q, %d: %v, %v", tree, text, e, again, spot)
		}
		tokens, _ := scan.Tokens(text)
		if len(tokens) > 400 {
			continue
		}
		for i, tok := range tokens {
			if tok.Text != "(" {
				continue
			}
			if less, spot := Parse(without(tokens, i, closing(tokens, i))); spot.Code == api.OK && sameTree(less, tree) {
				t.Fatalf("%q has a bracket too many, token %d", text, i)
			}
		}
	}
}

// P4.5: just MaxSource bytes, and one more.
func TestPrintLimits(t *testing.T) {
	for name, want := range map[string]api.Errno{"abcdefg": api.OK, "abcdefgh": api.OK, "abcdefghi": api.ErrLong, "abcdefghijklmnop": api.ErrLong} {
		text, e := Print(breaks(name, 1140))
		if e != want || e == api.OK && len(text) != 7992+len(name) || e != api.OK && text != "" {
			t.Errorf("%q: %d bytes, %d", name, len(text), e)
		}
	}
	if _, e := Print(breaks("f", 3996)); e != api.ErrLong {
		t.Errorf("4000 nodes: %d", e)
	}
	if _, e := Print(breaks("f", 3997)); e != api.ErrForm {
		t.Errorf("4001 nodes: %d", e)
	}
	deep := made(api.Node{Kind: api.NBlock})
	for range 3990 {
		deep = made(api.Node{Kind: api.NBlock}, deep)
	}
	if text, e := Print(lay(made(api.Node{Kind: api.NFile}, inBlock(deep)))); text != "" || e != api.ErrLong {
		t.Errorf("a deep tree: %d bytes, %d", len(text), e)
	}
	minus := made(api.Node{Kind: api.NNil})
	for range 3990 {
		minus = made(api.Node{Kind: api.NUnary, Text: "-"}, minus)
	}
	if text, e := Print(lay(made(api.Node{Kind: api.NFile}, inBlock(made(api.Node{Kind: api.NReturn}, minus))))); text != "func f() {\n\treturn "+strings.Repeat("-", 3990)+"nil\n}\n" || e != api.OK {
		t.Errorf("a deep operand: %d bytes, %d", len(text), e)
	}
}
