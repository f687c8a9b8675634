package fault

import (
	"fmt"
	"math/big"
	"regexp"

	"panicroad/api"
)

// expectText is what Text must answer, by what fmt writes.
func expectText(f api.Fault) string {
	const cut = "runtime error: slice bounds out of range "
	switch f.Kind {
	case 1:
		return fmt.Sprintf("runtime error: index out of range [%d] with length %d", f.A, f.B)
	case 2:
		return "runtime error: integer divide by zero"
	case 3:
		return "runtime error: negative shift amount"
	case 4:
		return "runtime error: invalid memory address or nil pointer dereference"
	case 5:
		if f.B >= 0 && f.B <= f.C && f.A <= f.B && f.A >= 0 {
			return ""
		}
		if f.B >= 0 && f.B <= f.C && f.A <= f.B {
			return fmt.Sprintf(cut+"[%d:]", f.A)
		}
		if f.B >= 0 && f.B <= f.C {
			return fmt.Sprintf(cut+"[%d:%d]", f.A, f.B)
		}
		return fmt.Sprintf(cut+"[:%d] with length %d", f.B, f.C)
	case 6:
		return "runtime error: no int in any"
	case 7:
		return fmt.Sprintf("runtime error: length %d is above %d", f.A, f.B)
	case 8:
		return "runtime error: panic called with nil"
	}
	return ""
}

const number = `(0|-?[1-9][0-9]*)`

// patterns stand one by one for what a text may be as a whole.
var patterns = []struct {
	kind    int
	pattern *regexp.Regexp
}{
	{1, regexp.MustCompile(`\Aruntime error: index out of range \[` + number + `\] with length ` + number + `\z`)},
	{2, regexp.MustCompile(`\Aruntime error: integer divide by zero\z`)},
	{3, regexp.MustCompile(`\Aruntime error: negative shift amount\z`)},
	{4, regexp.MustCompile(`\Aruntime error: invalid memory address or nil pointer dereference\z`)},
	{50, regexp.MustCompile(`\Aruntime error: slice bounds out of range \[:` + number + `\] with length ` + number + `\z`)},
	{51, regexp.MustCompile(`\Aruntime error: slice bounds out of range \[` + number + `:` + number + `\]\z`)},
	{52, regexp.MustCompile(`\Aruntime error: slice bounds out of range \[` + number + `:\]\z`)},
	{6, regexp.MustCompile(`\Aruntime error: no int in any\z`)},
	{7, regexp.MustCompile(`\Aruntime error: length ` + number + ` is above ` + number + `\z`)},
	{8, regexp.MustCompile(`\Aruntime error: panic called with nil\z`)},
}

// expectRead is what Read must answer, by patterns and by when each is told.
func expectRead(s string) (api.Fault, api.Errno) {
	for _, p := range patterns {
		found := p.pattern.FindStringSubmatch(s)
		if found == nil {
			continue
		}
		var n [2]int
		for i, digits := range found[1:] {
			exact, _ := new(big.Int).SetString(digits, 10)
			if !exact.IsInt64() {
				return api.Fault{}, api.ErrForm
			}
			n[i] = int(exact.Int64())
		}
		return expectMeant(p.kind, n)
	}
	return api.Fault{}, api.ErrForm
}

// expectMeant refuses bounds of which a text is never told, from what P7.3 says of each form.
func expectMeant(kind int, n [2]int) (api.Fault, api.Errno) {
	switch {
	case kind < 50:
		return api.Fault{Kind: kind, A: n[0], B: n[1]}, api.OK
	case kind == 50 && (n[0] < 0 || n[0] > n[1]):
		return api.Fault{Kind: 5, B: n[0], C: n[1]}, api.OK
	case kind == 51 && n[1] >= 0 && n[0] > n[1]:
		return api.Fault{Kind: 5, A: n[0], B: n[1], C: n[1]}, api.OK
	case kind == 52 && n[0] < 0:
		return api.Fault{Kind: 5, A: n[0]}, api.OK
	}
	return api.Fault{}, api.ErrForm
}
