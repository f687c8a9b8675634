package word

import (
	"math"
	"math/big"
	"regexp"
	"strings"
	"testing"

	"panicroad/api"
)

const (
	least    = math.MinInt64
	greatest = math.MaxInt64
)

// operands are ordinary numbers and those at which something turns over.
func operands() []int {
	return []int{
		least, least + 1, least / 2, -1 << 32, -1000003, -64, -63, -10, -7, -2, -1,
		0, 1, 2, 3, 7, 10, 12, 31, 32, 62, 63, 64, 65, 100, 200, 1000003, 1 << 32, 3037000500, 1 << 62, greatest - 1, greatest,
	}
}

// otherNumbers are numbers of neither an operation nor a comparison.
func otherNumbers() []int {
	return []int{least, -16, -1, 0, 17, 18, 100, 1 << 32, 1<<32 + 1, greatest}
}

// lowest is the lowest 64 bits of an exact number, with a sign.
func lowest(exact *big.Int) int {
	mask := new(big.Int).SetUint64(math.MaxUint64)
	return int(new(big.Int).And(exact, mask).Uint64())
}

// exactly is Do by numbers of any length; a move beyond 200 does what one by 200 does.
func exactly(op, a, b int) (int, api.Errno) {
	x, y, z := big.NewInt(int64(a)), big.NewInt(int64(b)), new(big.Int)
	count := uint(max(0, min(b, 200)))
	switch op {
	case 1:
		z.Add(x, y)
	case 2:
		z.Sub(x, y)
	case 3:
		z.Mul(x, y)
	case 4, 5:
		if b == 0 {
			return 0, api.ErrDivide
		}
		q, r := new(big.Int).QuoRem(x, y, new(big.Int))
		z = map[int]*big.Int{4: q, 5: r}[op]
	case 6, 7:
		if b < 0 {
			return 0, api.ErrShift
		}
		if op == 6 {
			z.Lsh(x, count)
		} else {
			z.Rsh(x, count)
		}
	case 8:
		z.And(x, y)
	case 9:
		z.Or(x, y)
	case 10:
		z.Xor(x, y)
	default:
		return 0, api.ErrKind
	}
	return lowest(z), api.OK
}

// P1.1
func TestDoIsExact(t *testing.T) {
	for op := -1; op <= 18; op++ {
		for _, a := range operands() {
			for _, b := range operands() {
				want, wantErr := exactly(op, a, b)
				if got, e := Do(op, a, b); got != want || e != wantErr {
					t.Errorf("Do(%d, %d, %d): %d, %d; wanted %d, %d", op, a, b, got, e, want, wantErr)
				}
			}
		}
	}
}

// P1.1
func TestDoEdges(t *testing.T) {
	for _, x := range []struct{ op, a, b, want int }{
		{1, 2, 3, 5}, {1, greatest, 1, least}, {1, least, -1, greatest},
		{2, 2, 3, -1}, {2, least, 1, greatest}, {2, 0, least, least},
		{3, -6, 7, -42}, {3, least, -1, least}, {3, 1 << 32, 1 << 32, 0}, {3, greatest, 2, -2},
		{4, 7, 2, 3}, {4, -7, 2, -3}, {4, 7, -2, -3}, {4, -7, -2, 3}, {4, least, -1, least}, {4, least, 1, least}, {4, 1, least, 0},
		{5, 7, 2, 1}, {5, -7, 2, -1}, {5, 7, -2, 1}, {5, -7, -2, -1}, {5, least, -1, 0}, {5, 1, least, 1}, {5, least, greatest, -1},
		{6, 5, 0, 5}, {6, 1, 63, least}, {6, 3, 63, least}, {6, 1, 64, 0}, {6, -1, 65, 0}, {6, -1, greatest, 0}, {6, -1, 1 << 32, 0},
		{7, -5, 0, -5}, {7, -5, 1, -3}, {7, least, 63, -1}, {7, greatest, 63, 0}, {7, least, 64, -1}, {7, greatest, 64, 0},
		{7, -1, greatest, -1}, {7, 1, greatest, 0}, {7, -9, 1 << 32, -1}, {7, 9, 1 << 32, 0}, {7, 0, 64, 0},
		{8, 12, 10, 8}, {8, -1, least, least}, {9, 12, 10, 14}, {9, least, greatest, -1}, {10, 12, 10, 6}, {10, -1, 5, -6},
	} {
		if got, e := Do(x.op, x.a, x.b); got != x.want || e != api.OK {
			t.Errorf("Do(%d, %d, %d): %d, %d; wanted %d", x.op, x.a, x.b, got, e, x.want)
		}
	}
}

// P1.1
func TestDoLeftAndQuotientMakeTheWhole(t *testing.T) {
	for _, a := range operands() {
		for _, b := range operands() {
			if b == 0 {
				continue
			}
			q, _ := Do(api.OpDiv, a, b)
			r, _ := Do(api.OpRem, a, b)
			if q*b+r != a || (r < 0) != (r != 0 && a < 0) {
				t.Errorf("%d by %d: %d, left %d", a, b, q, r)
			}
		}
	}
}

// P1.1
func TestDoRefuses(t *testing.T) {
	refuse := func(op, a, b int, want api.Errno) {
		t.Helper()
		if got, e := Do(op, a, b); got != 0 || e != want {
			t.Errorf("Do(%d, %d, %d): %d, %d; wanted 0, %d", op, a, b, got, e, want)
		}
	}
	for _, a := range operands() {
		refuse(api.OpDiv, a, 0, api.ErrDivide)
		refuse(api.OpRem, a, 0, api.ErrDivide)
		for _, b := range []int{-1, -63, -64, least} {
			refuse(api.OpShl, a, b, api.ErrShift)
			refuse(api.OpShr, a, b, api.ErrShift)
		}
		// What would be wrong with an operation's operands tells nothing where there is no operation.
		for _, op := range append(otherNumbers(), 11, 12, 13, 14, 15, 16) {
			refuse(op, a, 0, api.ErrKind)
			refuse(op, a, -1, api.ErrKind)
		}
	}
}

// orders says for the comparisons 11 to 16 whether ahead, the same, behind are asked for.
func orders() [6][3]bool {
	return [6][3]bool{
		{false, true, false}, {true, false, true}, {true, false, false},
		{true, true, false}, {false, false, true}, {false, true, true},
	}
}

// P1.2
func TestHolds(t *testing.T) {
	for i, row := range orders() {
		for j, want := range row {
			if got, e := Holds(11+i, j-1); got != want || e != api.OK {
				t.Errorf("Holds(%d, %d): %v, %d; wanted %v", 11+i, j-1, got, e, want)
			}
		}
	}
}

// P1.2
func TestHoldsRefuses(t *testing.T) {
	wrongOps := append(otherNumbers(), 1, 2, 3, 4, 5, 6, 7, 8, 9, 10)
	for _, c := range []int{-1, 0, 1} {
		for _, op := range wrongOps {
			if got, e := Holds(op, c); got || e != api.ErrKind {
				t.Errorf("Holds(%d, %d): %v, %d; wanted ErrKind", op, c, got, e)
			}
		}
	}
	// ErrRange is named ahead of ErrKind: it is told of a wrong op, too.
	for _, c := range []int{least, -3, -2, 2, 3, 1 << 32, greatest} {
		for _, op := range append(wrongOps, 11, 12, 13, 14, 15, 16) {
			if got, e := Holds(op, c); got || e != api.ErrRange {
				t.Errorf("Holds(%d, %d): %v, %d; wanted ErrRange", op, c, got, e)
			}
		}
	}
}

// P1.2
func TestCompare(t *testing.T) {
	for _, a := range operands() {
		for _, b := range operands() {
			order := big.NewInt(int64(a)).Cmp(big.NewInt(int64(b)))
			for i, row := range orders() {
				if got, e := Compare(11+i, a, b); got != row[order+1] || e != api.OK {
					t.Errorf("Compare(%d, %d, %d): %v, %d", 11+i, a, b, got, e)
				}
			}
		}
	}
}

// P1.2
func TestCompareRefuses(t *testing.T) {
	for _, op := range append(otherNumbers(), 1, 2, 3, 4, 5, 6, 7, 8, 9, 10) {
		for _, b := range []int{least, 0, 1, greatest} {
			if got, e := Compare(op, 1, b); got || e != api.ErrKind {
				t.Errorf("Compare(%d, 1, %d): %v, %d; wanted ErrKind", op, b, got, e)
			}
		}
	}
}

// P1.3
func TestTextAndBack(t *testing.T) {
	numbers := operands()
	for n := 1; n > 0 && n < greatest/10; n *= 10 {
		numbers = append(numbers, n-1, n, n+1, -n, 1-n, -n-1)
	}
	for _, n := range numbers {
		want := big.NewInt(int64(n)).String()
		if got := Text(n); got != want {
			t.Errorf("Text(%d): %q", n, got)
		}
		if got, e := Read(want); got != n || e != api.OK {
			t.Errorf("Read(%q): %d, %d", want, got, e)
		}
	}
}

// P1.3
func TestReadRefuses(t *testing.T) {
	for _, s := range []string{
		"", "-", "+", "--1", "+1", "-+1", "+0", "-0", "00", "-00", "07", "-07", "0007",
		"9223372036854775808", "-9223372036854775809", "09223372036854775807", "-09223372036854775808",
		"18446744073709551615", "18446744073709551616", "18446744073709551617", "-18446744073709551616",
		"92233720368547758070", "99999999999999999999", strings.Repeat("9", 5000), strings.Repeat("0", 5000),
		" 1", "1 ", "1\n", "\t1", "- 1", "1-", "1.0", "1e3", "0x1", "0b1", "0o7", "1_000", "a", "1a", "NaN", "Inf",
		"1\x00", "\x001", "\xff", "1\xff", "\u0661", "\uff11", "\u22121",
	} {
		if got, e := Read(s); got != 0 || e != api.ErrNumber {
			t.Errorf("Read(%q): %d, %d; wanted ErrNumber", s, got, e)
		}
	}
}

// P1.3
func FuzzRead(f *testing.F) {
	for _, s := range []string{"0", "-1", "12", "-0", "9223372036854775807", "9223372036854775808", "x"} {
		f.Add(s)
	}
	form := regexp.MustCompile(`\A(0|-?[1-9][0-9]*)\z`)
	f.Fuzz(func(t *testing.T, s string) {
		want, wantErr := 0, api.ErrNumber
		if form.MatchString(s) {
			if exact, _ := new(big.Int).SetString(s, 10); exact.IsInt64() {
				want, wantErr = int(exact.Int64()), api.OK
			}
		}
		if got, e := Read(s); got != want || e != wantErr {
			t.Errorf("Read(%q): %d, %d; wanted %d, %d", s, got, e, want, wantErr)
		}
	})
}

// P1.4
func TestSignAndNumber(t *testing.T) {
	for i, want := range strings.Fields("+ - * / % << >> & | ^ == != < <= > >=") {
		if got, e := Sign(i + 1); got != want || e != api.OK {
			t.Errorf("Sign(%d): %q, %d; wanted %q", i+1, got, e, want)
		}
		if got, e := Number(want); got != i+1 || e != api.OK {
			t.Errorf("Number(%q): %d, %d; wanted %d", want, got, e, i+1)
		}
	}
}

// P1.4
func TestSignRefuses(t *testing.T) {
	for _, op := range otherNumbers() {
		if got, e := Sign(op); got != "" || e != api.ErrKind {
			t.Errorf("Sign(%d): %q, %d; wanted ErrKind", op, got, e)
		}
	}
}

// P1.4
func TestNumberRefuses(t *testing.T) {
	for _, s := range []string{
		"", " ", "=", "!", "&&", "||", ":=", "<<<", ">>>", "===", "=<", "=>", "<>", "&^", "**", "//", "+ ", " +", "++", "--",
		"+ -", "1", "add", "\x00", "+\x00", "\xff", "\u2212", strings.Repeat("+", 5000),
	} {
		if got, e := Number(s); got != 0 || e != api.ErrNone {
			t.Errorf("Number(%q): %d, %d; wanted ErrNone", s, got, e)
		}
	}
}
