package check

import (
	"math/rand"
	"slices"
	"strconv"
	"strings"

	"panicroad/api"
	"panicroad/scan"
)

// maker writes programs by chance that are right but for a slip here and there.
type maker struct {
	*rand.Rand
	known  []typed // the variables that are known, the innermost last
	begin  int     // where the innermost scope begins in known
	result string  // the running function's; empty: none
	named  bool    // whether the result has a name
	loops  int
	slips  int // one choice of so many is wrong; 0: none
}

type typed struct{ name, of string }

func pick[T any](m *maker, l ...T) T { return l[m.Intn(len(l))] }

func (m *maker) slip() bool { return m.slips > 0 && m.Intn(m.slips) == 0 }

func (m *maker) anyType() string {
	return pick(m, "int", "int", "bool", "string", "any", "[]int", "*int", "func()", "func(int)int", "func(string,any)bool")
}

// prelude are functions that the others may call.
const prelude = "func pair(a int, b string) int { return a + len(b) }\nfunc same(x any) any { return x }\nfunc point() *int { var n int; return &n }\nfunc quiet() {}\nfunc long(a " + longest + ", b int) {}\n"

// longest is a type of as many bytes as may be.
const longest = "func(func(string,string,string,string),func(string,string,string,string),func(bool,bool,bool))[]int"

// program is a whole source.
func (m *maker) program() string {
	src := prelude
	for i := range m.Intn(3) {
		src += m.slipped("", "func pair() {}\n", "func len() {}\n") + "func f" + strconv.Itoa(i) + m.head(m.params(), 3) + "\n"
	}
	return src + "func " + m.slipped("main", "mane") + m.head(m.slippedParams(), 4) + "\n"
}

// slipped is the right one, or by a slip one of the others.
func (m *maker) slipped(right string, others ...string) string {
	if m.slip() {
		return pick(m, others...)
	}
	return right
}

func (m *maker) params() []typed {
	var l []typed
	for i := range m.Intn(4) {
		l = append(l, typed{m.slipped(string(rune('p'+i)), "p", "exit"), m.anyType()})
	}
	return l
}

func (m *maker) slippedParams() []typed {
	if m.slip() {
		return m.params()
	}
	return nil
}

// head is a function's from its first bracket on; without parameters it has no result.
func (m *maker) head(params []typed, depth int) string {
	result, named := "", false
	if len(params) > 0 && m.Intn(3) > 0 {
		result, named = m.anyType(), m.Intn(2) == 0
	}
	return m.headOf(params, result, named, depth)
}

func (m *maker) headOf(params []typed, result string, named bool, depth int) string {
	outer := *m
	m.begin, m.result, m.named, m.loops = len(m.known), result, named, 0
	var l []string
	for _, p := range params {
		l = append(l, p.name+" "+p.of)
		m.known = append(m.known, p)
	}
	told := result
	if named {
		told = "(z " + result + ")"
		m.known = append(m.known, typed{"z", result})
	}
	src := "(" + strings.Join(l, ", ") + ") " + told + " " + m.block(depth)
	*m = outer
	return src
}

func (m *maker) block(depth int) string {
	known, begin := m.known, m.begin
	m.begin = len(m.known)
	src := "{"
	if depth > 0 {
		for range m.Intn(5) {
			src += m.statement(depth-1) + "\n"
		}
	}
	m.known, m.begin = known, begin
	return src + "}"
}

// newName is a name that the innermost scope doesn't have.
func (m *maker) newName() string {
	name := pick(m, "a", "b", "c", "d", "main", "f0", "x1", "x2", "x3")
	taken := slices.ContainsFunc(m.known[m.begin:], func(v typed) bool { return v.name == name })
	if taken && !m.slip() {
		return m.newName() + "_"
	}
	return m.slipped(name, builtIns()...)
}

func (m *maker) statement(depth int) string {
	switch m.Intn(12) {
	case 0:
		v := typed{m.newName(), m.anyType()}
		m.known = append(slices.Clone(m.known), v)
		return "var " + v.name + " " + v.of
	case 1, 2:
		t := m.anyType()
		value := m.expr(t, depth)
		v := typed{m.newName(), t}
		m.known = append(slices.Clone(m.known), v)
		return v.name + " := " + m.slipped(value, "nil", "quiet()")
	case 3:
		return m.assign(depth)
	case 4:
		return "if " + m.expr("bool", depth) + m.block(depth) + pick(m, "", " else "+m.block(depth), " else if "+m.expr("bool", depth)+m.block(depth))
	case 5:
		m.loops++
		src := "for " + pick(m, "", m.expr("bool", depth)) + m.block(depth)
		m.loops--
		return src
	case 6:
		if m.loops > 0 || m.slip() {
			return pick(m, "break", "continue")
		}
		return m.block(depth)
	case 7:
		return m.returned(depth)
	case 8:
		return "defer " + m.slipped("same("+m.fitting("any", depth)+")", "println(1)", "recover()", "exit(\"\")")
	case 9:
		return pick(m, "panic("+m.expr(pick(m, "int", "string", "any"), depth)+")", "exit("+m.expr("int", depth)+")", "recover()", m.slipped("quiet()", "quiet(1)", "len()", "long(nil, 1)", "panic(nil)", "nobody()", "point", "(1)()"))
	}
	return "println(" + m.expr(m.anyType(), depth) + ", " + m.slipped("nil", "quiet()", "println()", "len") + ", " + m.expr(m.anyType(), depth) + ")"
}

func (m *maker) assign(depth int) string {
	switch m.Intn(3) {
	case 0:
		return "*" + m.expr("*int", depth) + " = " + m.expr("int", depth)
	case 1:
		return m.slipped(m.expr("[]int", 0), "\"a\"", "nil") + "[" + m.expr("int", depth) + "] = " + m.expr("int", depth)
	}
	if v, ok := m.one(func(typed) bool { return true }); ok {
		return m.slipped(v.name, "pair", "long", "nobody") + " = " + m.fitting(v.of, depth)
	}
	return "quiet()"
}

func (m *maker) returned(depth int) string {
	if m.slip() {
		return pick(m, "return", "return 1", "return nil", "return quiet()")
	}
	if m.result == "" || m.named && m.Intn(2) == 0 {
		return "return"
	}
	return "return " + m.fitting(m.result, depth)
}

// one is a variable by chance that is known and not hidden, and that something holds for.
func (m *maker) one(holds func(typed) bool) (typed, bool) {
	var l []typed
	for i, v := range m.known {
		hidden := slices.ContainsFunc(m.known[i+1:], func(w typed) bool { return w.name == v.name })
		if !hidden && holds(v) {
			l = append(l, v)
		}
	}
	if len(l) == 0 {
		return typed{}, false
	}
	return pick(m, l...), true
}

func (m *maker) variable(t string) (string, bool) {
	v, ok := m.one(func(v typed) bool { return v.of == t })
	return v.name, ok
}

// fitting is an expression that a variable of a type may be given.
func (m *maker) fitting(t string, depth int) string {
	switch {
	case t == "any" && m.Intn(2) == 0:
		return pick(m, m.expr("int", depth), m.expr("string", depth), "nil")
	case t != "int" && t != "bool" && t != "string" && m.Intn(4) == 0:
		return "nil"
	}
	return m.expr(t, depth)
}

// expr is an expression of a type.
func (m *maker) expr(t string, depth int) string {
	if m.slip() {
		t = m.anyType()
	}
	if name, ok := m.variable(t); ok && m.Intn(3) == 0 {
		return name
	}
	if depth <= 0 {
		return m.simple(t)
	}
	depth--
	switch t {
	case "int":
		return m.number(depth)
	case "bool":
		return m.truth(depth)
	case "string":
		return pick(m, m.simple(t), "("+m.expr(t, depth)+" + "+m.expr(t, depth)+")", m.simple(t)+m.cut(depth))
	case "any":
		return pick(m, "recover()", "(same)("+m.fitting("any", depth)+")")
	case "[]int":
		return pick(m, "append("+m.expr(t, depth)+", "+m.expr("int", depth)+")", m.simple(t)+m.cut(depth), "[]int{"+m.expr("int", depth)+", "+m.expr("int", depth)+"}")
	case "*int":
		return m.pointer()
	case "func()":
		return pick(m, m.simple(t), "func"+m.headOf(nil, "", false, depth))
	case "func(int)int":
		return "func" + m.headOf([]typed{{pick(m, "p", "a"), "int"}}, "int", m.Intn(2) == 0, depth)
	}
	return m.simple(t)
}

// simple is an expression of a type without parts made by chance.
func (m *maker) simple(t string) string {
	switch t {
	case "int":
		return pick(m, "0", "1", "7")
	case "bool":
		return pick(m, "true", "false")
	case "string":
		return pick(m, "\"\"", "\"ab\"")
	case "any":
		return "recover()"
	case "[]int":
		return pick(m, "[]int{}", "[]int{1, 2}")
	case "*int":
		return "point()"
	case "func()":
		return "quiet"
	case "func(int)int":
		return "func(i int) int { return i }"
	}
	return "func(s string, x any) bool { return false }"
}

func (m *maker) pointer() string {
	if name, ok := m.variable("int"); ok {
		return "&" + m.slipped(name, "quiet", "len")
	}
	return "point()"
}

func (m *maker) number(depth int) string {
	sub := func(t string) string { return m.expr(t, depth) }
	return pick(m, "-"+sub("int"), "("+sub("int")+pick(m, "+", "-", "*", "/", "%", "<<", ">>", "&", "|", "^")+sub("int")+")",
		"len("+sub(pick(m, "[]int", "string"))+")", m.simple("[]int")+"["+sub("int")+"]", m.simple("string")+"["+sub("int")+"]",
		"toint("+sub("any")+")", "*"+sub("*int"), "pair("+sub("int")+", "+sub("string")+m.slipped("", ", 1")+")", "("+sub("func(int)int")+")("+sub("int")+")")
}

func (m *maker) truth(depth int) string {
	sub := func(t string) string { return m.expr(t, depth) }
	alike := pick(m, "int", "string", "bool")
	return pick(m, "!"+sub("bool"), "("+sub(alike)+pick(m, "==", "!=")+sub(alike)+")", "("+sub(pick(m, "[]int", "any", "*int", "func()"))+" == nil)",
		"(nil != "+sub(pick(m, "[]int", "any", "*int"))+")", "("+sub("int")+pick(m, "<", "<=", ">", ">=")+sub("int")+")", "("+sub("string")+pick(m, "<", ">=")+sub("string")+")",
		"("+sub("bool")+pick(m, "&&", "||")+sub("bool")+")", "isint("+sub("any")+")")
}

func (m *maker) cut(depth int) string {
	return "[" + pick(m, "", m.expr("int", depth)) + ":" + pick(m, "", m.expr("int", depth)) + "]"
}

// changed is a source with some tokens in the place of others.
func (m *maker) changed(src string) string {
	tokens, _ := scan.Tokens(src)
	if len(tokens) == 0 {
		return src
	}
	for range 1 + m.Intn(2) {
		i := m.Intn(len(tokens))
		switch t := &tokens[i]; t.Kind {
		case api.TokName:
			t.Text = pick(m, "a", "b", "p", "q", "z", "main", "pair", "quiet", "long", "len", "println", "panic", "recover", "nobody")
		case api.TokInt, api.TokText:
			*t = pick(m, api.Token{Kind: api.TokName, Text: "a"}, api.Token{Kind: api.TokInt, Text: "3"}, api.Token{Kind: api.TokText, Text: "\"a\""}, api.Token{Kind: api.TokWord, Text: "true"}, api.Token{Kind: api.TokWord, Text: "nil"})
		case api.TokWord:
			t.Text = pick(m, "int", "bool", "string", "any", "nil", "true", "break", "return", "continue")
		case api.TokSign:
			t.Text = pick(m, "+", "-", "*", "<", "==", "&&", "!", "&", "=", ":=")
		}
	}
	shown, _ := scan.Show(tokens)
	return shown
}
