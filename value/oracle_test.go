package value

import (
	"fmt"
	"strings"

	"panicroad/api"
)

// fields tells of each kind of the table which fields it uses: N, B (N, as a bool), S, L, or - (none).
const fields = "-NBS-SLNN"

// field is which field a kind uses; outside of the table it is none.
func field(kind int) byte {
	if kind < 0 || kind >= len(fields) {
		return '-'
	}
	return fields[kind]
}

// expectShow is what Show must answer, by what fmt writes.
func expectShow(v api.Value) string {
	switch field(v.Kind) {
	case 'N':
		if v.Kind == api.VInt {
			return fmt.Sprintf("%d", v.N)
		}
		return map[int]string{api.VPtr: "pointer", api.VFunc: "func"}[v.Kind]
	case 'B':
		return fmt.Sprint(v.N != 0)
	case 'S':
		return v.S
	case 'L':
		return fmt.Sprint(v.L)
	}
	return strings.Repeat("nil", map[bool]int{true: 1}[v.Kind == api.VNil])
}

// expectLine is what Line must answer, from the last value to the first.
func expectLine(l []api.Value) string {
	text := "\n"
	for i := len(l) - 1; i >= 0; i-- {
		text = expectShow(l[i]) + text
		if i > 0 {
			text = " " + text
		}
	}
	return text
}

// expectPlain is what Plain must answer: fields that are not used are cleared one by one.
func expectPlain(v api.Value) api.Value {
	use := field(v.Kind)
	if v.Kind < 0 || v.Kind >= len(fields) {
		v.Kind = 0
	}
	if use != 'N' && use != 'B' {
		v.N = 0
	}
	if use == 'B' && v.N != 0 {
		v.N = 1
	}
	if use != 'S' {
		v.S = ""
	}
	if use != 'L' {
		v.L = nil
	}
	return v
}

// expectSame is what Same must answer.
func expectSame(a, b api.Value) bool {
	if a.Kind != b.Kind {
		return false
	}
	switch field(a.Kind) {
	case 'N':
		return a.N == b.N
	case 'B':
		return (a.N == 0) == (b.N == 0)
	case 'S':
		return a.S == b.S
	case 'L':
		return fmt.Sprint(a.L) == fmt.Sprint(b.L)
	}
	return true
}

// expectOrder is what Order must answer, texts being gone through byte by byte.
func expectOrder(a, b api.Value) (int, api.Errno) {
	if a.Kind != b.Kind {
		return 0, api.ErrType
	}
	switch a.Kind {
	case api.VInt:
		return ahead(a.N < b.N, a.N > b.N), api.OK
	case api.VText:
		for i := 0; i < len(a.S) && i < len(b.S); i++ {
			if a.S[i] != b.S[i] {
				return ahead(a.S[i] < b.S[i], a.S[i] > b.S[i]), api.OK
			}
		}
		return ahead(len(a.S) < len(b.S), len(a.S) > len(b.S)), api.OK
	}
	return 0, api.ErrKind
}

func ahead(less, more bool) int {
	switch {
	case less:
		return -1
	case more:
		return 1
	}
	return 0
}
