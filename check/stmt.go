package check

import (
	"panicroad/api"
	"panicroad/types"
)

func (c *checker) block(at int) {
	c.inScope(func() {
		for _, kid := range c.tree[at].Kids {
			c.statement(kid)
		}
	})
}

func (c *checker) statement(at int) {
	n := c.tree[at]
	switch n.Kind {
	case api.NBlock:
		c.block(at)
	case api.NVar:
		c.declare(at, n.Type)
	case api.NDefine:
		c.define(at)
	case api.NAssign:
		c.assign(at)
	case api.NCallStmt:
		c.value(n.Kids[0])
	case api.NIf:
		c.ifStatement(at)
	case api.NFor:
		c.forStatement(at)
	case api.NBreak, api.NContinue:
		must(c.within.loops > 0, api.ErrPlace, at)
	case api.NReturn:
		c.returnStatement(at)
	case api.NDefer:
		c.deferStatement(at)
	}
}

func (c *checker) define(at int) {
	t := c.value(c.tree[at].Kids[0])
	must(t != "" && t != "nil", api.ErrType, at)
	c.declare(at, t)
}

func (c *checker) assign(at int) {
	place := c.tree[at].Kids[0]
	kids := c.values(c.tree[at].Kids)
	must(c.canBeSet(place) && types.Fits(kids[1], kids[0]), api.ErrType, at)
}

// canBeSet is whether a place that was gone through is neither a function's name nor a byte of a string.
func (c *checker) canBeSet(place int) bool {
	n := c.tree[place]
	switch n.Kind {
	case api.NName:
		return c.info.Refs[place] < api.RefFunc
	case api.NIndex:
		return c.info.Types[n.Kids[0]] == "[]int"
	}
	return true
}

// condition goes through the condition of a statement.
func (c *checker) condition(statement, at int) {
	must(c.value(at) == "bool", api.ErrType, statement)
}

func (c *checker) ifStatement(at int) {
	kids := c.tree[at].Kids
	c.condition(at, kids[0])
	for _, kid := range kids[1:] {
		c.statement(kid)
	}
}

func (c *checker) forStatement(at int) {
	kids := c.tree[at].Kids
	block := len(kids) - 1
	if block > 0 {
		c.condition(at, kids[0])
	}
	c.within.loops++
	c.block(kids[block])
	c.within.loops--
}

func (c *checker) returnStatement(at int) {
	kids, result := c.values(c.tree[at].Kids), c.resultOf(c.within.node)
	if len(kids) == 0 {
		must(result.Type == "" || result.Text != "", api.ErrArgs, at)
		return
	}
	must(result.Type != "", api.ErrArgs, at)
	must(types.Fits(kids[0], result.Type), api.ErrType, at)
}

func (c *checker) deferStatement(at int) {
	call := c.tree[at].Kids[0]
	c.value(call)
	_, built := c.calledBuiltIn(call)
	must(!built, api.ErrPlace, at)
}
