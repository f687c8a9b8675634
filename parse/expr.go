package parse

import (
	"panicroad/api"
	"panicroad/scan"
	"panicroad/word"
)

// tightness is how tightly a sign binds the operands that it stands between (0: it stands between none).
func tightness(sign string) int {
	switch sign {
	case "||":
		return 1
	case "&&":
		return 2
	case "==", "!=", "<", "<=", ">", ">=":
		return 3
	case "+", "-", "|", "^":
		return 4
	case "*", "/", "%", "<<", ">>", "&":
		return 5
	}
	return 0
}

func (p *parser) expr() int { return p.operands(1) }

// operands goes past operands with signs between them that bind at least so tightly.
func (p *parser) operands(least int) int {
	left := p.operand()
	for {
		sign := p.peek(0).Text
		tight := tightness(sign)
		if tight < least {
			return left
		}
		p.at++
		// One that binds alike is left to this loop: so such signs go from the left.
		right := p.operands(tight + 1)
		left = p.lay(api.Node{Kind: api.NBinary, Text: sign, Kids: []int{left, right}})
	}
}

func (p *parser) operand() int {
	switch sign := p.peek(0).Text; sign {
	case "-", "!", "*":
		p.at++
		return p.lay(api.Node{Kind: api.NUnary, Text: sign, Kids: []int{p.operand()}})
	case "&":
		p.at++
		name := p.lay(api.Node{Kind: api.NName, Text: p.name()})
		return p.lay(api.Node{Kind: api.NUnary, Text: sign, Kids: []int{name}})
	}
	node, _ := p.part()
	return node
}

// part goes past a part; last is the kind of what it ends with. Brackets leave no node, but what stands in them is neither a place nor a call: of them it is 0.
func (p *parser) part() (node, last int) {
	node, last = p.firstPart()
	for {
		switch {
		case p.take("("):
			kids := append([]int{node}, list(p, ")", p.expr)...)
			node = p.lay(api.Node{Kind: api.NCall, Kids: kids})
		case p.take("["):
			node = p.indexed(node)
		default:
			return node, last
		}
		last = p.tree[node].Kind
	}
}

// firstPart goes past a part that no other one begins; last is as in part.
func (p *parser) firstPart() (node, last int) {
	if p.take("(") {
		node = p.expr()
		p.must(")")
		return node, 0
	}
	switch {
	case p.take("func"):
		node = p.head(api.Node{Kind: api.NLit})
	case p.take("["):
		p.must("]")
		p.must("int")
		p.must("{")
		node = p.lay(api.Node{Kind: api.NList, Kids: list(p, "}", p.expr)})
	default:
		node = p.lay(p.single())
	}
	return node, p.tree[node].Kind
}

// single is the node of an operand that is one token.
func (p *parser) single() api.Node {
	t := p.peek(0)
	p.at++
	switch t.Kind {
	case api.TokName:
		return api.Node{Kind: api.NName, Text: t.Text}
	case api.TokInt:
		n, _ := word.Read(t.Text)
		return api.Node{Kind: api.NInt, Num: n}
	case api.TokText:
		said, _ := scan.Unquote(t.Text)
		return api.Node{Kind: api.NText, Text: said}
	}
	switch t.Text {
	case "true":
		return api.Node{Kind: api.NBool, Num: 1}
	case "false":
		return api.Node{Kind: api.NBool}
	case "nil":
		return api.Node{Kind: api.NNil}
	}
	p.giveUp()
	return api.Node{}
}

// indexed goes past what stands behind the [ of an index or a slice.
func (p *parser) indexed(of int) int {
	from := p.bound(":")
	if p.tree[from].Kind != api.NNone && p.take("]") {
		return p.lay(api.Node{Kind: api.NIndex, Kids: []int{of, from}})
	}
	p.must(":")
	to := p.bound("]")
	p.must("]")
	return p.lay(api.Node{Kind: api.NSlice, Kids: []int{of, from, to}})
}

// bound goes past a bound of a slice, or past nothing, where the sign that follows it stands.
func (p *parser) bound(follows string) int {
	if p.is(follows) {
		return p.lay(api.Node{Kind: api.NNone})
	}
	return p.expr()
}
