package walk

import "strconv"

// expr is an expression of a type.
func (m *maker) expr(t string, depth int) string {
	if v, ok := m.variable(func(v typed) bool { return v.of == t }); ok && m.one(2) {
		return v.name
	}
	if depth <= 0 {
		return m.constant(t)
	}
	if m.one(5) {
		if call := m.callOf(func(s signature) bool { return s.result == t }, depth-1); call != "" {
			return call
		}
	}
	depth--
	switch t {
	case "int":
		return m.number(depth)
	case "bool":
		return m.truth(depth)
	case "string":
		return pick(m, m.constant(t), "("+m.expr(t, depth)+" + "+m.expr(t, depth)+")", "("+m.expr(t, depth)+")"+m.cut())
	case "any":
		return pick(m, "recover()", "f1("+m.fitting("any", depth)+")")
	case "[]int":
		return pick(m, "append("+m.expr(t, depth)+", "+m.expr("int", depth)+")", "("+m.expr(t, depth)+")"+m.cut(), "[]int{"+m.expr("int", depth)+", "+m.expr("int", depth)+"}")
	case "*int":
		return m.pointer()
	}
	return m.closure(t)
}

func (m *maker) closure(t string) string {
	if m.nest > 2 {
		return m.constant(t)
	}
	if t == "func()" {
		return pick(m, "f2", "func"+m.head(nil, "", false, 0))
	}
	return pick(m, "f0", "func"+m.head([]typed{{pick(m, "n", "a"), "int"}}, "int", m.one(2), 0))
}

// constant is an expression of a type without parts made by chance.
func (m *maker) constant(t string) string {
	switch t {
	case "int":
		return strconv.Itoa(m.Intn(5))
	case "bool":
		return pick(m, "true", "false")
	case "string":
		return pick(m, `""`, `"ab"`, `"q\"\n\\"`, `"c"`)
	case "any":
		return "recover()"
	case "[]int":
		return pick(m, "[]int{}", "[]int{1, 2}", "[]int{3, 4, 5}")
	case "*int":
		return m.pointer()
	case "func()":
		return "f2"
	}
	return "f0"
}

func (m *maker) pointer() string {
	if v, ok := m.variable(func(v typed) bool { return v.of == "int" && v.name[0] != 'i' }); ok {
		return "&" + v.name
	}
	return "func() *int { var n int; return &n }()"
}

// index is an int that is mostly small.
func (m *maker) index() string {
	if m.one(m.wild) {
		return m.expr("int", 1)
	}
	return pick(m, "0", "1")
}

func (m *maker) cut() string {
	return "[" + pick(m, "", "0", m.index()) + ":" + pick(m, "", m.index()) + "]"
}

func (m *maker) number(depth int) string {
	sub := func(t string) string { return m.expr(t, depth) }
	divisor := pick(m, "3", "("+sub("int")+" | 1)")
	if m.one(m.wild) {
		divisor = sub("int")
	}
	return pick(m, "-"+sub("int"), "("+sub("int")+pick(m, "+", "-", "*", "&", "|", "^")+sub("int")+")", "("+sub("int")+pick(m, "/", "%", "<<", ">>")+divisor+")",
		"len("+sub(pick(m, "[]int", "string"))+")", "("+sub(pick(m, "[]int", "string"))+")["+m.index()+"]", "*"+sub("*int"), "toint("+sub("any")+")", "("+sub("func(int)int")+")("+sub("int")+")", strconv.Itoa(m.Intn(9)))
}

func (m *maker) truth(depth int) string {
	sub := func(t string) string { return m.expr(t, depth) }
	alike := pick(m, "int", "string", "bool")
	return pick(m, "!"+sub("bool"), "("+sub(alike)+pick(m, "==", "!=")+sub(alike)+")", "("+sub(pick(m, "[]int", "any", "*int", "func()"))+pick(m, "==", "!=")+"nil)",
		"(nil != "+sub(pick(m, "[]int", "any", "*int"))+")", "("+sub("int")+pick(m, "<", "<=", ">", ">=")+sub("int")+")", "("+sub("string")+pick(m, "<", "<=", ">", ">=")+sub("string")+")",
		"("+sub("bool")+pick(m, "&&", "||")+sub("bool")+")", "isint("+sub("any")+")")
}
