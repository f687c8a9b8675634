package check

import (
	"slices"

	"panicroad/api"
)

// scope holds the numbers of what was declared in it, by name.
type scope map[string]int

// inScope does something with one more scope within those that are there.
func (c *checker) inScope(do func()) {
	c.scopes = append(c.scopes, scope{})
	do()
	c.scopes = c.scopes[:len(c.scopes)-1]
}

// declare gives a node's variable the next number. A result without a name lies under the empty one, which nothing else has.
func (c *checker) declare(at int, t string) {
	name, innermost := c.tree[at].Text, c.scopes[len(c.scopes)-1]
	_, taken := innermost[name]
	must(!taken && !isBuiltIn(name), api.ErrTwice, at)
	number := len(c.info.VarTypes)
	must(number < api.MaxVars, api.ErrFull, at)
	innermost[name] = number
	c.info.Refs[at] = number
	c.info.VarTypes = append(c.info.VarTypes, t)
	c.info.Boxed = append(c.info.Boxed, false)
	c.info.Owner = append(c.info.Owner, c.within.node)
}

// variable is the number of the innermost variable of a name.
func (c *checker) variable(name string) (int, bool) {
	for _, s := range slices.Backward(c.scopes) {
		if number, ok := s[name]; ok {
			return number, true
		}
	}
	return 0, false
}

// name is the type of what a name refers to. A built-in that is called doesn't come here.
func (c *checker) name(at int) string {
	text := c.tree[at].Text
	if number, ok := c.variable(text); ok {
		return c.use(at, number)
	}
	number, ok := c.functions[text]
	must(ok, api.ErrName, at)
	c.info.Refs[at] = api.RefFunc + number
	file := c.tree[len(c.tree)-1]
	return c.fullType(at, file.Kids[number])
}

// use refers a name to a variable, which stands in a box if a function uses it that may outlive its own.
func (c *checker) use(at, number int) string {
	c.info.Refs[at] = number
	if c.info.Owner[number] != c.within.node {
		c.info.Boxed[number] = true
	}
	return c.info.VarTypes[number]
}

// fullType is the type of a function's node, of, which must not be too long where it is a value's, at.
func (c *checker) fullType(at, of int) string {
	t := c.funcType(of)
	must(t != "", api.ErrType, at)
	return t
}
