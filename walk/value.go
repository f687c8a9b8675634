package walk

import (
	"slices"

	"panicroad/api"
	"panicroad/fault"
	"panicroad/value"
	"panicroad/word"
)

// What stands here makes values of values. Where a fault stands beside a value, the value is not asked for.

func intValue(n int) api.Value { return api.Value{Kind: api.VInt, N: n} }

func textValue(s string) api.Value { return api.Value{Kind: api.VText, S: s} }

// listValue refers to the elements: who has the value puts into the same list.
func listValue(elements []int) api.Value { return api.Value{Kind: api.VList, L: elements} }

func boolValue(holds bool) api.Value {
	if holds {
		return api.Value{Kind: api.VBool, N: 1}
	}
	return api.Value{Kind: api.VBool}
}

// length is that of a text or list; nil has no elements.
func length(v api.Value) int {
	if v.Kind == api.VText {
		return len(v.S)
	}
	return len(v.L)
}

// between is what an operation or a comparison gives. Of nil, too, Same tells what == asks: it is the same as nil alone.
func between(sign string, left, right api.Value) (api.Value, api.Fault) {
	op, _ := word.Number(sign)
	switch {
	case op == api.OpEq:
		return boolValue(value.Same(left, right)), api.Fault{}
	case op == api.OpNe:
		return boolValue(!value.Same(left, right)), api.Fault{}
	case op > api.OpNe:
		order, _ := value.Order(left, right)
		holds, _ := word.Holds(op, order)
		return boolValue(holds), api.Fault{}
	case left.Kind == api.VText:
		both := left.S + right.S
		return textValue(both), fault.Long(len(both), api.MaxText)
	}
	n, _ := word.Do(op, left.N, right.N)
	return intValue(n), fault.Operation(op, right.N)
}

// element is a list's, or a byte of a text.
func element(of api.Value, i int) (api.Value, api.Fault) {
	if f := fault.Index(i, length(of)); f != (api.Fault{}) {
		return api.Value{}, f
	}
	if of.Kind == api.VText {
		return intValue(int(of.S[i])), api.Fault{}
	}
	return intValue(of.L[i]), api.Fault{}
}

// piece is a new text or list; a bound that is VNone stands for the beginning, or for the end.
func piece(of, from, to api.Value) (api.Value, api.Fault) {
	lo, hi := from.N, to.N
	if to.Kind == api.VNone {
		hi = length(of)
	}
	if f := fault.Bounds(lo, hi, length(of)); f != (api.Fault{}) {
		return api.Value{}, f
	}
	if of.Kind == api.VText {
		return textValue(of.S[lo:hi]), api.Fault{}
	}
	return listValue(slices.Clone(of.L[lo:hi])), api.Fault{}
}

func listOf(elements []item) (api.Value, api.Fault) {
	l := make([]int, len(elements))
	for i, e := range elements {
		l[i] = e.N
	}
	return listValue(l), fault.Long(len(l), api.MaxList)
}

func appended(to api.Value, n int) (api.Value, api.Fault) {
	l := slices.Concat(to.L, []int{n})
	return listValue(l), fault.Long(len(l), api.MaxList)
}

func toInt(v api.Value) (api.Value, api.Fault) {
	if v.Kind != api.VInt {
		return api.Value{}, api.Fault{Kind: api.FaultAny}
	}
	return v, api.Fault{}
}
