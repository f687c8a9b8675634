package walk

import (
	"math/rand"
	"slices"
	"strconv"
	"strings"
)

// maker writes programs by chance that are right, and that keep calls, panic and recover often.
type maker struct {
	*rand.Rand
	known    []typed // the variables that are known, the innermost last
	begin    int     // where the innermost scope begins in known
	function int     // the number of the one that is written; it calls those ahead of it, and seldom others
	result   string  // its result's type
	named    bool
	nest     int // functions within one another
	loops    int
	counters int
	wild     int // one bound or index of so many is any int
}

type typed struct{ name, of string }

func pick[T any](m *maker, l ...T) T { return l[m.Intn(len(l))] }

// one in n.
func (m *maker) one(n int) bool { return m.Intn(n) == 0 }

// signature is a function that all programs have; its body is made by chance.
type signature struct {
	name   string
	params []typed
	result string
	named  bool
}

func signatures() []signature {
	return []signature{
		{"f0", []typed{{"n", "int"}}, "int", false},
		{"f1", []typed{{"x", "any"}}, "any", true},
		{"f2", nil, "", false},
		{"f3", []typed{{"p", "*int"}, {"l", "[]int"}}, "[]int", true},
		{"f4", []typed{{"g", "func(int)int"}, {"b", "bool"}, {"s", "string"}}, "func(int)int", false},
		{"f5", []typed{{"s", "string"}}, "string", true},
		{"main", nil, "", false},
	}
}

// program is a whole source.
func (m *maker) program() string {
	src := ""
	for i, s := range signatures() {
		m.function = i
		depth := 1 + m.Intn(2)
		if s.name == "main" {
			depth = 3
		}
		src += "func " + s.name + m.head(s.params, s.result, s.named, depth) + "\n"
	}
	return src
}

func (m *maker) anyType() string {
	return pick(m, "int", "int", "int", "bool", "string", "any", "[]int", "*int", "func()", "func(int)int")
}

// head is a function's from its first bracket on.
func (m *maker) head(params []typed, result string, named bool, depth int) string {
	return m.inFunction(params, result, named, func() string { return m.block(depth, 2+depth) })
}

// deferredHead is that of a function that is to be deferred: it recovers often.
func (m *maker) deferredHead(params []typed, depth int) string {
	first := pick(m, "", "recover()\n", "println(\"r\", recover())\n", "if recover() != nil { "+m.shown()+" }\n", "defer f2()\n")
	return m.inFunction(params, "", false, func() string { return "{\n" + first + m.block(depth, 1+depth) + "\n}" })
}

func (m *maker) shown() string { return "println(" + strconv.Itoa(m.Intn(90)+10) + ")" }

func (m *maker) inFunction(params []typed, result string, named bool, body func() string) string {
	outer := *m
	m.begin, m.result, m.named, m.loops, m.nest = len(m.known), result, named, 0, m.nest+1
	m.known = slices.Clone(m.known)
	var l []string
	for _, p := range params {
		l = append(l, p.name+" "+p.of)
		m.known = append(m.known, p)
	}
	told := result
	if named {
		told = "(z " + result + ")"
		m.known = append(m.known, typed{"z", result})
	}
	src := "(" + strings.Join(l, ", ") + ") " + told + " " + body()
	outer.counters = m.counters
	*m = outer
	return src
}

func (m *maker) block(depth, most int) string {
	known, begin := m.known, m.begin
	m.begin = len(m.known)
	src := "{\n"
	for range 1 + m.Intn(most) {
		src += m.statement(depth) + "\n"
	}
	m.known, m.begin = known, begin
	return src + "}"
}

func (m *maker) declare(name, t string) {
	m.known = append(slices.Clone(m.known), typed{name, t})
}

// newName is a name that the innermost scope doesn't have; it may hide others.
func (m *maker) newName() string {
	name := pick(m, "a", "b", "c", "d", "n", "s", "x")
	for slices.ContainsFunc(m.known[m.begin:], func(v typed) bool { return v.name == name }) {
		name += "_"
	}
	return name
}

func (m *maker) statement(depth int) string {
	if depth <= 0 {
		return m.simpleStatement()
	}
	depth--
	switch m.Intn(16) {
	case 0:
		return "if " + m.expr("bool", 2) + " " + m.block(depth, 3) + pick(m, "", " else "+m.block(depth, 2), " else if "+m.expr("bool", 1)+" "+m.block(depth, 2)+" else "+m.block(depth, 2))
	case 1:
		return m.loop(depth)
	case 2, 3, 4:
		return "defer func" + m.deferredHead(nil, depth) + "()"
	case 5:
		name, t := pick(m, "n", "q"), m.anyType()
		return "defer func" + m.deferredHead([]typed{{name, t}}, depth) + "(" + m.fitting(t, 1) + ")"
	case 6:
		return "func" + m.head(nil, "", false, depth) + "()"
	case 7:
		return m.block(depth, 3)
	case 8:
		return "if " + m.expr("bool", 2) + " { panic(" + m.expr(pick(m, "int", "string", "any"), 1) + ") }"
	case 9:
		name := m.newName()
		src := name + " := func" + m.head([]typed{{"n", "int"}}, "int", m.one(2), depth)
		m.declare(name, "func(int)int")
		return src
	}
	return m.simpleStatement()
}

// loop is one of a few rounds, with the counter's declaration ahead of it.
func (m *maker) loop(depth int) string {
	m.counters++
	counter := "i" + strconv.Itoa(m.counters)
	m.declare(counter, "int")
	m.loops++
	body := m.block(depth, 4)
	m.loops--
	limit := strconv.Itoa(1 + m.Intn(3))
	if m.one(3) {
		return counter + " := 0\nfor { if " + counter + " >= " + limit + " { break }\n" + counter + " = " + counter + " + 1\n" + body + " }"
	}
	return counter + " := 0\nfor " + counter + " < " + limit + " {\n" + counter + " = " + counter + " + 1\n" + body[1:]
}

func (m *maker) simpleStatement() string {
	switch m.Intn(14) {
	case 0:
		name, t := m.newName(), m.anyType()
		m.declare(name, t)
		return "var " + name + " " + t
	case 1, 2:
		t := m.anyType()
		value := m.expr(t, 2)
		name := m.newName()
		m.declare(name, t)
		return name + " := " + value
	case 3, 4:
		return m.assign()
	case 5:
		if m.one(2) {
			return "panic(" + m.expr(pick(m, "int", "string", "any"), 1) + ")"
		}
		return m.callStatement()
	case 6:
		if m.one(40) {
			return "for { println(\"0123456789012345678901234567890123456789012345678\") }"
		}
		return m.callStatement()
	case 7:
		return "defer " + m.callStatement()
	case 8:
		if m.loops > 0 {
			return "if " + m.expr("bool", 1) + " { " + pick(m, "break", "continue") + " }"
		}
		return "println(\"r\", recover())"
	case 9:
		if m.one(3) {
			return m.returned()
		}
		return pick(m, m.assign(), m.shown())
	case 10:
		if m.one(15) {
			return "exit(" + m.expr("int", 1) + ")"
		}
		return m.assign()
	}
	return "println(" + m.expr(m.anyType(), 2) + ", " + m.fitting(m.anyType(), 2) + ")"
}

func (m *maker) assign() string {
	switch m.Intn(5) {
	case 0:
		return "*" + m.expr("*int", 1) + " = " + m.expr("int", 1)
	case 1:
		return m.expr("[]int", 1) + "[" + m.index() + "] = " + m.expr("int", 1)
	}
	if v, ok := m.variable(func(v typed) bool { return v.name[0] != 'i' }); ok {
		return v.name + " = " + m.fitting(v.of, 2)
	}
	return m.shown()
}

// callStatement is a call that is no built-in's.
func (m *maker) callStatement() string {
	if v, ok := m.variable(func(v typed) bool { return v.of == "func()" }); ok && m.one(2) {
		return v.name + "()"
	}
	if call := m.callOf(func(signature) bool { return true }, 1); call != "" {
		return call
	}
	return "func() { " + m.shown() + " }()"
}

// callOf is a call of a function for which something holds; mostly of one that stands ahead.
func (m *maker) callOf(holds func(signature) bool, depth int) string {
	var l []signature
	for i, s := range signatures() {
		if holds(s) && s.name != "main" && (i < m.function || m.one(12)) && !m.hidden(s.name) {
			l = append(l, s)
		}
	}
	if len(l) == 0 {
		return ""
	}
	s := pick(m, l...)
	var args []string
	for _, p := range s.params {
		args = append(args, m.fitting(p.of, depth))
	}
	return s.name + "(" + strings.Join(args, ", ") + ")"
}

func (m *maker) hidden(name string) bool {
	return slices.ContainsFunc(m.known, func(v typed) bool { return v.name == name })
}

func (m *maker) returned() string {
	if m.result == "" || m.named && m.one(2) {
		return "return"
	}
	return "return " + m.fitting(m.result, 2)
}

// variable is one by chance that is not hidden, and that something holds for.
func (m *maker) variable(holds func(typed) bool) (typed, bool) {
	var l []typed
	for i, v := range m.known {
		hidden := slices.ContainsFunc(m.known[i+1:], func(w typed) bool { return w.name == v.name })
		if !hidden && holds(v) {
			l = append(l, v)
		}
	}
	if len(l) == 0 {
		return typed{}, false
	}
	return pick(m, l...), true
}

// fitting is an expression that a variable of a type may be given.
func (m *maker) fitting(t string, depth int) string {
	switch {
	case t == "any" && m.one(2):
		return pick(m, m.expr("int", depth), m.expr("string", depth), "nil")
	case t != "int" && t != "bool" && t != "string" && m.one(12):
		return "nil"
	}
	return m.expr(t, depth)
}
