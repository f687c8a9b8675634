package parse

import (
	"reflect"
	"slices"
	"strconv"
	"strings"

	"panicroad/api"
	"panicroad/scan"
	"panicroad/types"
)

// shape is a node with its kids in it; the Node's own Kids are not used.
type shape struct {
	api.Node
	kids []*shape
}

func made(n api.Node, kids ...*shape) *shape { return &shape{n, kids} }

// lay is the tree of a shape: each node behind all nodes of its kids.
func lay(s *shape) []api.Node {
	var tree []api.Node
	var add func(*shape) int
	add = func(s *shape) int {
		n := s.Node
		n.Kids = nil
		for _, kid := range s.kids {
			n.Kids = append(n.Kids, add(kid))
		}
		tree = append(tree, n)
		return len(tree) - 1
	}
	add(s)
	return tree
}

// sameTree is whether two trees are the same; a list without elements may be nil or not.
func sameTree(a, b []api.Node) bool {
	return slices.EqualFunc(a, b, func(x, y api.Node) bool {
		kids := slices.Equal(x.Kids, y.Kids)
		x.Kids, y.Kids = nil, nil
		return kids && reflect.DeepEqual(x, y)
	})
}

// reading is a way to read tokens up to an end; ends tells what a part ends with.
type reading struct {
	end  int
	made []*shape
	ends string
}

// rule is all ways to read the tokens from a place on: the oracle decides nothing early.
type rule func(o *oracle, at int) []reading

// mark is a rule at a place.
type mark struct {
	name string
	at   int
}

// oracle reads tokens by the grammar as it stands in the document.
type oracle struct {
	tokens []api.Token
	rules  map[string]rule
	known  map[mark][]reading
}

// text reads one token with one of these texts, and makes nothing.
func text(texts ...string) rule {
	return func(o *oracle, at int) []reading {
		if at < len(o.tokens) && slices.Contains(texts, o.tokens[at].Text) {
			return []reading{{end: at + 1}}
		}
		return nil
	}
}

// kept is like text, and makes a node without a kind that tells the token.
func kept(texts ...string) rule {
	return func(o *oracle, at int) []reading {
		out := text(texts...)(o, at)
		for i := range out {
			out[i].made = []*shape{made(api.Node{Text: o.tokens[at].Text})}
		}
		return out
	}
}

// token reads one token of a kind, and makes what it is handed to makes.
func token(kind int, make func(text string) api.Node) rule {
	return func(o *oracle, at int) []reading {
		if at < len(o.tokens) && o.tokens[at].Kind == kind {
			return []reading{{end: at + 1, made: []*shape{made(make(o.tokens[at].Text))}, ends: "token"}}
		}
		return nil
	}
}

func seq(rules ...rule) rule {
	return func(o *oracle, at int) []reading {
		out := []reading{{end: at}}
		for _, r := range rules {
			var next []reading
			for _, ahead := range out {
				for _, here := range r(o, ahead.end) {
					next = append(next, reading{here.end, slices.Concat(ahead.made, here.made), here.ends})
				}
			}
			out = next
		}
		return out
	}
}

func alt(rules ...rule) rule {
	return func(o *oracle, at int) []reading {
		var out []reading
		for _, r := range rules {
			out = append(out, r(o, at)...)
		}
		return out
	}
}

func opt(r rule) rule { return alt(r, seq()) }

// many reads what a rule reads, any number of times.
func many(r rule) rule {
	return func(o *oracle, at int) []reading {
		out := []reading{{end: at}}
		for i := 0; i < len(out); i++ {
			for _, here := range r(o, out[i].end) {
				if here.end > out[i].end {
					out = append(out, reading{here.end, slices.Concat(out[i].made, here.made), here.ends})
				}
			}
		}
		return out
	}
}

// commas reads what a rule reads, any number of times, with commas between.
func commas(r rule) rule { return opt(seq(r, many(seq(text(","), r)))) }

// build makes one node of all that a rule made.
func build(kind int, r rule) rule {
	return turn(r, func(l []*shape) *shape { return made(api.Node{Kind: kind}, l...) })
}

// turn makes one node of all that a rule made, by a function; where that one makes none, it was no reading.
func turn(r rule, by func([]*shape) *shape) rule {
	return func(o *oracle, at int) []reading {
		var out []reading
		for _, here := range r(o, at) {
			if s := by(here.made); s != nil {
				out = append(out, reading{here.end, []*shape{s}, here.ends})
			}
		}
		return out
	}
}

// known keeps what a rule read from a place on, under a name; it also lets rules name each other.
func known(name string, r func() rule) rule {
	return func(o *oracle, at int) []reading {
		key := mark{name, at}
		out, ok := o.known[key]
		if !ok {
			if o.rules[name] == nil {
				o.rules[name] = r()
			}
			out = o.rules[name](o, at)
			o.known[key] = out
		}
		return out
	}
}

func file() rule {
	return build(api.NFile, seq(many(seq(opt(function()), text(";"))), opt(function())))
}

func function() rule {
	return turn(seq(text("func"), name(), head()), func(l []*shape) *shape {
		return made(api.Node{Kind: api.NFunc, Text: l[0].Text, Num: l[1].Num}, l[1].kids...)
	})
}

func name() rule {
	return token(api.TokName, func(text string) api.Node { return api.Node{Kind: api.NName, Text: text} })
}

// typed reads a name and a type.
func typed(kind int) rule {
	return turn(seq(name(), oneType()), func(l []*shape) *shape {
		return made(api.Node{Kind: kind, Text: l[0].Text, Type: l[1].Type})
	})
}

func head() rule {
	return known("head", func() rule {
		plain := turn(opt(oneType()), func(l []*shape) *shape {
			n := api.Node{Kind: api.NResult}
			if len(l) > 0 {
				n.Type = l[0].Type
			}
			return made(n)
		})
		result := alt(plain, seq(text("("), typed(api.NResult), text(")")))
		whole := seq(text("("), commas(typed(api.NParam)), text(")"), result, block())
		return turn(whole, func(l []*shape) *shape {
			if len(l)-2 > 4 {
				return nil
			}
			return made(api.Node{Num: len(l) - 2}, l...)
		})
	})
}

// oneType reads a type; its text is that of its tokens, one behind the other.
func oneType() rule {
	return known("type", func() rule {
		return func(o *oracle, at int) []reading {
			var out []reading
			for _, here := range bareType()(o, at) {
				all := ""
				for _, t := range o.tokens[at:here.end] {
					all += t.Text
				}
				if types.Valid(all) {
					out = append(out, reading{end: here.end, made: []*shape{made(api.Node{Type: all})}})
				}
			}
			return out
		}
	})
}

func bareType() rule {
	return known("bare type", func() rule {
		return alt(text("int", "bool", "string", "any"), seq(text("["), text("]"), text("int")), seq(text("*"), text("int")),
			seq(text("func"), text("("), commas(bareType()), text(")"), opt(bareType())))
	})
}

func block() rule {
	return known("block", func() rule {
		inside := opt(seq(opt(aStatement()), many(seq(text(";"), opt(aStatement())))))
		return build(api.NBlock, seq(text("{"), inside, text("}")))
	})
}

func aStatement() rule {
	return known("statement", func() rule {
		define := turn(seq(name(), text(":="), expr()), func(l []*shape) *shape {
			return made(api.Node{Kind: api.NDefine, Text: l[0].Text}, l[1])
		})
		return alt(block(), seq(text("var"), typed(api.NVar)), define,
			build(api.NAssign, seq(aPlace(), text("="), expr())), build(api.NCallStmt, aCall()),
			anIf(), build(api.NFor, seq(text("for"), opt(expr()), block())),
			build(api.NBreak, text("break")), build(api.NContinue, text("continue")),
			build(api.NReturn, seq(text("return"), opt(expr()))), build(api.NDefer, seq(text("defer"), aCall())))
	})
}

func anIf() rule {
	return known("if", func() rule {
		return build(api.NIf, seq(text("if"), expr(), block(), opt(seq(text("else"), alt(block(), anIf())))))
	})
}

// ending lets through those readings of a part that end so.
func ending(ends ...string) rule {
	return func(o *oracle, at int) []reading {
		var out []reading
		for _, here := range part()(o, at) {
			if slices.Contains(ends, here.ends) {
				out = append(out, here)
			}
		}
		return out
	}
}

func aPlace() rule {
	return alt(name(), ending("index"), unary("*", operand()))
}

func aCall() rule { return ending("call") }

// tightly are the signs between operands, from the weakest to the tightest.
func tightly() []string {
	return []string{"||", "&&", "== != < <= > >=", "+ - | ^", "* / % << >> &"}
}

func signs() []string { return strings.Fields(strings.Join(tightly(), " ")) }

// binds is how tightly a sign binds.
func binds(sign string) int {
	return slices.IndexFunc(tightly(), func(row string) bool { return slices.Contains(strings.Fields(row), sign) })
}

func expr() rule {
	return known("expr", func() rule {
		return turn(seq(operand(), many(seq(kept(signs()...), operand()))), split)
	})
}

// split makes a node of operands with signs between: the one that binds least parts them, the last one of several.
func split(l []*shape) *shape {
	if len(l) == 1 {
		return l[0]
	}
	at := 1
	for i := 1; i < len(l); i += 2 {
		if binds(l[i].Text) <= binds(l[at].Text) {
			at = i
		}
	}
	return made(api.Node{Kind: api.NBinary, Text: l[at].Text}, split(l[:at]), split(l[at+1:]))
}

func unary(sign string, r rule) rule {
	return turn(seq(text(sign), r), func(l []*shape) *shape {
		return made(api.Node{Kind: api.NUnary, Text: sign}, l...)
	})
}

func operand() rule {
	return known("operand", func() rule {
		return alt(unary("-", operand()), unary("!", operand()), unary("*", operand()), unary("&", name()), part())
	})
}

// wordNode reads one word of the language, and makes a node.
func wordNode(text string, n api.Node) rule {
	return turn(kept(text), func([]*shape) *shape { return made(n) })
}

func firstOfPart() rule {
	number := token(api.TokInt, func(text string) api.Node {
		n, err := strconv.Atoi(text)
		if err != nil {
			panic(err)
		}
		return api.Node{Kind: api.NInt, Num: n}
	})
	quoted := token(api.TokText, func(text string) api.Node {
		said, err := strconv.Unquote(text)
		if err != nil {
			panic(err)
		}
		return api.Node{Kind: api.NText, Text: said}
	})
	literal := turn(seq(text("func"), head()), func(l []*shape) *shape {
		return made(api.Node{Kind: api.NLit, Num: l[0].Num}, l[0].kids...)
	})
	elements := build(api.NList, seq(text("["), text("]"), text("int"), text("{"), commas(expr()), text("}")))
	return alt(name(), number, quoted, wordNode("true", api.Node{Kind: api.NBool, Num: 1}), wordNode("false", api.Node{Kind: api.NBool}),
		wordNode("nil", api.Node{Kind: api.NNil}), seq(text("("), expr(), text(")")), literal, elements)
}

// behindPart reads what makes a longer part of one; the node that it makes lacks its first kid.
func behindPart() map[string]rule {
	bound := turn(opt(expr()), func(l []*shape) *shape {
		if len(l) == 0 {
			return made(api.Node{Kind: api.NNone})
		}
		return l[0]
	})
	return map[string]rule{
		"call":  build(api.NCall, seq(text("("), commas(expr()), text(")"))),
		"index": build(api.NIndex, seq(text("["), expr(), text("]"))),
		"slice": build(api.NSlice, seq(text("["), bound, text(":"), bound, text("]"))),
	}
}

func part() rule {
	return known("part", func() rule {
		first, behind := firstOfPart(), behindPart()
		return func(o *oracle, at int) []reading {
			out := first(o, at)
			for i := range out {
				out[i].ends = "first"
			}
			for i := 0; i < len(out); i++ {
				for ends, r := range behind {
					for _, here := range r(o, out[i].end) {
						n := made(here.made[0].Node, slices.Concat(out[i].made, here.made[0].kids)...)
						out = append(out, reading{here.end, []*shape{n}, ends})
					}
				}
			}
			return out
		}
	})
}

// deepest is how many brackets are open at most.
func deepest(tokens []api.Token) int {
	open, most := 0, 0
	for _, t := range tokens {
		if t.Kind != api.TokSign {
			continue
		}
		if strings.Contains("([{", t.Text) {
			open++
		} else if strings.Contains(")]}", t.Text) && open > 0 {
			open--
		}
		most = max(most, open)
	}
	return most
}

// expect is what Parse must answer, by the grammar; ways is how many different trees it lets the source have.
func expect(src string) (tree []api.Node, spot api.Spot, ways int) {
	tokens, spot := scan.Tokens(src)
	if spot != (api.Spot{}) {
		return nil, spot, 0
	}
	if deepest(tokens) > 40 {
		return nil, api.Spot{Code: api.ErrDepth}, 0
	}
	o := &oracle{tokens: tokens, rules: map[string]rule{}, known: map[mark][]reading{}}
	for _, here := range file()(o, 0) {
		if here.end != len(tokens) {
			continue
		}
		if found := lay(here.made[0]); ways == 0 || !sameTree(tree, found) {
			tree = found
			ways++
		}
	}
	if ways == 0 {
		return nil, api.Spot{Code: api.ErrForm}, 0
	}
	return tree, api.Spot{}, ways
}
