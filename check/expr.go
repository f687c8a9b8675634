package check

import (
	"panicroad/api"
	"panicroad/types"
)

// value goes through an expression and is its type (empty: it has no value).
func (c *checker) value(at int) string {
	t := c.typeOf(at)
	c.info.Types[at] = t
	return t
}

func (c *checker) values(nodes []int) []string {
	var list []string
	for _, at := range nodes {
		list = append(list, c.value(at))
	}
	return list
}

func (c *checker) typeOf(at int) string {
	switch c.tree[at].Kind {
	case api.NInt:
		return "int"
	case api.NText:
		return "string"
	case api.NBool:
		return "bool"
	case api.NNil:
		return "nil"
	case api.NName:
		return c.name(at)
	case api.NUnary:
		return c.unary(at)
	case api.NBinary:
		return c.binary(at)
	case api.NCall:
		return c.call(at)
	case api.NIndex:
		return c.index(at)
	case api.NSlice:
		return c.slice(at)
	case api.NList:
		return c.list(at)
	}
	return c.literal(at)
}

// literal goes through a function without a name.
func (c *checker) literal(at int) string {
	t := c.fullType(at, at)
	c.function(at)
	return t
}

func (c *checker) unary(at int) string {
	n := c.tree[at]
	operand := n.Kids[0]
	switch t := c.value(operand); {
	case n.Text == "-" && t == "int", n.Text == "!" && t == "bool":
		return t
	case n.Text == "*" && t == "*int":
		return "int"
	case n.Text == "&" && t == "int":
		// A name that is an int is a variable's: functions are none.
		c.info.Boxed[c.info.Refs[operand]] = true
		return "*int"
	}
	giveUp(api.ErrType, at)
	return ""
}

func (c *checker) binary(at int) string {
	n := c.tree[at]
	operands := c.values(n.Kids)
	t := between(n.Text, operands[0], operands[1])
	must(t != "", api.ErrType, at)
	return t
}

// between is the type of two operands with a sign between them; empty: the sign is not for these.
func between(sign, left, right string) string {
	both := func(t string) bool { return left == t && right == t }
	switch sign {
	case "==", "!=":
		return boolIf(types.Compares(left, right))
	case "&&", "||":
		return boolIf(both("bool"))
	case "<", "<=", ">", ">=":
		return boolIf(both("int") || both("string"))
	}
	if both("int") || sign == "+" && both("string") {
		return left
	}
	return ""
}

// boolIf is the type of a comparison that may be asked; empty: it may not.
func boolIf(asked bool) string {
	if asked {
		return "bool"
	}
	return ""
}

// hasElements is whether values of a type can be indexed and sliced.
func hasElements(t string) bool { return t == "[]int" || t == "string" }

func (c *checker) index(at int) string {
	kids := c.values(c.tree[at].Kids)
	must(hasElements(kids[0]) && kids[1] == "int", api.ErrType, at)
	return "int"
}

func (c *checker) slice(at int) string {
	kids := c.tree[at].Kids
	t := c.value(kids[0])
	from, to := c.bound(kids[1]), c.bound(kids[2])
	must(hasElements(t) && from && to, api.ErrType, at)
	return t
}

// bound goes through a bound of a slice and is whether it may be one; one that is missing may.
func (c *checker) bound(at int) bool {
	return c.tree[at].Kind == api.NNone || c.value(at) == "int"
}

func (c *checker) list(at int) string {
	for _, t := range c.values(c.tree[at].Kids) {
		must(t == "int", api.ErrType, at)
	}
	return "[]int"
}
