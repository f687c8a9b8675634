// Package word: see ../../shared/doc/01-word.md.
package word

import (
	"cmp"
	"strconv"

	"panicroad/api"
)

// signs holds the sign of operation n at n - 1: no operation has the number 0.
var signs = [16]string{"+", "-", "*", "/", "%", "<<", ">>", "&", "|", "^", "==", "!=", "<", "<=", ">", ">="}

// Do is a (operation) b.
func Do(op, a, b int) (int, api.Errno) {
	switch op {
	case api.OpAdd:
		return a + b, api.OK
	case api.OpSub:
		return a - b, api.OK
	case api.OpMul:
		return a * b, api.OK
	case api.OpDiv, api.OpRem:
		return divide(op, a, b)
	case api.OpShl, api.OpShr:
		return move(op, a, b)
	case api.OpAnd:
		return a & b, api.OK
	case api.OpOr:
		return a | b, api.OK
	case api.OpXor:
		return a ^ b, api.OK
	}
	return 0, api.ErrKind
}

// divide stands apart from Do because Go would panic at a divisor of 0.
func divide(op, a, b int) (int, api.Errno) {
	if b == 0 {
		return 0, api.ErrDivide
	}
	if op == api.OpDiv {
		return a / b, api.OK
	}
	return a % b, api.OK
}

// move stands apart from Do because Go would panic at a count below 0.
func move(op, a, b int) (int, api.Errno) {
	if b < 0 {
		return 0, api.ErrShift
	}
	if op == api.OpShl {
		return a << uint(b), api.OK
	}
	return a >> uint(b), api.OK
}

// Holds is whether an order (-1, 0, 1) is what a comparison asks for.
func Holds(op, c int) (bool, api.Errno) {
	if c < -1 || c > 1 {
		return false, api.ErrRange
	}
	switch op {
	case api.OpEq:
		return c == 0, api.OK
	case api.OpNe:
		return c != 0, api.OK
	case api.OpLt:
		return c < 0, api.OK
	case api.OpLe:
		return c <= 0, api.OK
	case api.OpGt:
		return c > 0, api.OK
	case api.OpGe:
		return c >= 0, api.OK
	}
	return false, api.ErrKind
}

// Compare is whether a (comparison) b.
func Compare(op, a, b int) (bool, api.Errno) {
	// Not the sign of a - b: a difference may wrap round.
	return Holds(op, cmp.Compare(a, b))
}

// Text is n in decimal digits.
func Text(n int) string { return strconv.Itoa(n) }

// Read is the number whose Text is s.
func Read(s string) (int, api.Errno) {
	n, err := strconv.Atoi(s)
	// Atoi also takes forms that no Text has, such as "-0", "07" and "+1".
	if err != nil || Text(n) != s {
		return 0, api.ErrNumber
	}
	return n, api.OK
}

// Sign is an operation's or comparison's sign.
func Sign(op int) (string, api.Errno) {
	if op < api.OpAdd || op > api.OpGe {
		return "", api.ErrKind
	}
	return signs[op-1], api.OK
}

// Number is the operation or comparison of a sign.
func Number(sign string) (int, api.Errno) {
	for i, s := range signs {
		if s == sign {
			return i + 1, api.OK
		}
	}
	return 0, api.ErrNone
}
