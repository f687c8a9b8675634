package fault

import (
	"math"
	"math/rand"
	"strings"
	"testing"

	"panicroad/api"
)

const (
	least    = math.MinInt64
	greatest = math.MaxInt64
)

// numbers are ordinary ones, those at which something turns over, and those that are 0 in fewer bits.
func numbers() []int {
	return []int{least, least + 1, -1 << 32, -256, -10, -2, -1, 0, 1, 2, 3, 9, 10, 199, 200, 201, 256, 1 << 32, greatest - 1, greatest}
}

// kinds are all of the tables of run-time errors, operations and checks, and some that are of none.
func kinds() []int {
	return []int{least, -256, -5, -1, 0, 1, 2, 3, 4, 5, 6, 7, 8, 9, 10, 11, 12, 13, 16, 17, 256 + 1, 256 + 5, 1<<32 + 4, 1<<32 + 6, greatest}
}

// P7.1
func TestIndex(t *testing.T) {
	for _, x := range []struct {
		i, n  int
		right bool
	}{
		{0, 1, true}, {2, 3, true}, {0, greatest, true}, {greatest - 1, greatest, true},
		{0, 0, false}, {1, 1, false}, {3, 3, false}, {-1, 3, false}, {-1, 0, false}, {5, 3, false},
		{0, -1, false}, {-1, -1, false}, {-2, -1, false}, {least, 3, false}, {least, greatest, false},
		{greatest, greatest, false}, {0, least, false}, {5, least, false}, {greatest, least, false}, {least, least, false},
	} {
		want := api.Fault{}
		if !x.right {
			want = api.Fault{Kind: api.FaultIndex, A: x.i, B: x.n}
		}
		if got := Index(x.i, x.n); got != want {
			t.Errorf("Index(%d, %d): %+v, not %+v", x.i, x.n, got, want)
		}
	}
}

// P7.1
func TestBounds(t *testing.T) {
	for _, x := range []struct {
		lo, hi, n int
		right     bool
	}{
		{0, 0, 0, true}, {0, 3, 3, true}, {3, 3, 3, true}, {1, 2, 3, true}, {0, 0, 3, true}, {2, 2, 3, true}, {greatest, greatest, greatest, true},
		{0, 1, 0, false}, {1, 0, 0, false}, {1, 1, 0, false}, {2, 1, 3, false}, {1, 4, 3, false}, {4, 4, 3, false}, {-1, 2, 3, false},
		{-1, -1, 3, false}, {0, -1, 3, false}, {0, 0, -1, false}, {-1, -1, -1, false}, {least, 0, 0, false}, {0, greatest, 3, false},
		{0, least, 3, false}, {0, 1, least, false}, {greatest, 0, greatest, false}, {least, least, least, false},
	} {
		want := api.Fault{}
		if !x.right {
			want = api.Fault{Kind: api.FaultBounds, A: x.lo, B: x.hi, C: x.n}
		}
		if got := Bounds(x.lo, x.hi, x.n); got != want {
			t.Errorf("Bounds(%d, %d, %d): %+v, not %+v", x.lo, x.hi, x.n, got, want)
		}
	}
}

// P7.1
func TestLong(t *testing.T) {
	for _, x := range []struct {
		n, most int
		right   bool
	}{
		{0, 0, true}, {100, 100, true}, {99, 100, true}, {-5, -5, true}, {-6, -5, true}, {least, greatest, true}, {least, least, true}, {greatest, greatest, true},
		{101, 100, false}, {1, 0, false}, {0, -1, false}, {-4, -5, false}, {greatest, least, false}, {greatest, greatest - 1, false}, {least + 1, least, false},
	} {
		want := api.Fault{}
		if !x.right {
			want = api.Fault{Kind: api.FaultLong, A: x.n, B: x.most}
		}
		if got := Long(x.n, x.most); got != want {
			t.Errorf("Long(%d, %d): %+v, not %+v", x.n, x.most, got, want)
		}
	}
}

// P7.2
func TestOperation(t *testing.T) {
	for _, op := range kinds() {
		for _, b := range numbers() {
			want := api.Fault{}
			if (op == 4 || op == 5) && b == 0 {
				want = api.Fault{Kind: 2}
			}
			if (op == 6 || op == 7) && b < 0 {
				want = api.Fault{Kind: 3}
			}
			if got := Operation(op, b); got != want {
				t.Errorf("Operation(%d, %d): %+v, not %+v", op, b, got, want)
			}
		}
	}
}

// P7.3
func TestText(t *testing.T) {
	for _, x := range []struct {
		f    api.Fault
		want string
	}{
		{api.Fault{Kind: api.FaultIndex, A: 5, B: 1}, "runtime error: index out of range [5] with length 1"},
		{api.Fault{Kind: api.FaultIndex, A: -1, B: 0, C: 7}, "runtime error: index out of range [-1] with length 0"},
		{api.Fault{Kind: api.FaultIndex, A: 1, B: 2}, "runtime error: index out of range [1] with length 2"},
		{api.Fault{Kind: api.FaultIndex, A: least, B: greatest}, "runtime error: index out of range [-9223372036854775808] with length 9223372036854775807"},
		{api.Fault{Kind: api.FaultDivide, A: 1, B: 2, C: 3}, "runtime error: integer divide by zero"},
		{api.Fault{Kind: api.FaultShift, A: 1, B: 2, C: 3}, "runtime error: negative shift amount"},
		{api.Fault{Kind: api.FaultNil, A: 1, B: 2, C: 3}, "runtime error: invalid memory address or nil pointer dereference"},
		{api.Fault{Kind: api.FaultBounds, A: 1, B: 9, C: 3}, "runtime error: slice bounds out of range [:9] with length 3"},
		{api.Fault{Kind: api.FaultBounds, A: 10, B: 9, C: 3}, "runtime error: slice bounds out of range [:9] with length 3"},
		{api.Fault{Kind: api.FaultBounds, A: -1, B: 4, C: 3}, "runtime error: slice bounds out of range [:4] with length 3"},
		{api.Fault{Kind: api.FaultBounds, A: -5, B: -1, C: 3}, "runtime error: slice bounds out of range [:-1] with length 3"},
		{api.Fault{Kind: api.FaultBounds, A: 2, B: -1, C: -1}, "runtime error: slice bounds out of range [:-1] with length -1"},
		{api.Fault{Kind: api.FaultBounds, A: 0, B: 0, C: -1}, "runtime error: slice bounds out of range [:0] with length -1"},
		{api.Fault{Kind: api.FaultBounds, A: 2, B: 1, C: 3}, "runtime error: slice bounds out of range [2:1]"},
		{api.Fault{Kind: api.FaultBounds, A: 4, B: 3, C: 3}, "runtime error: slice bounds out of range [4:3]"},
		{api.Fault{Kind: api.FaultBounds, A: 1, B: 0, C: 0}, "runtime error: slice bounds out of range [1:0]"},
		{api.Fault{Kind: api.FaultBounds, A: -1, B: 2, C: 3}, "runtime error: slice bounds out of range [-1:]"},
		{api.Fault{Kind: api.FaultBounds, A: least}, "runtime error: slice bounds out of range [-9223372036854775808:]"},
		{api.Fault{Kind: api.FaultAny, A: 1, B: 2, C: 3}, "runtime error: no int in any"},
		{api.Fault{Kind: api.FaultLong, A: 101, B: 100, C: 3}, "runtime error: length 101 is above 100"},
		{api.Fault{Kind: api.FaultLong, A: -1, B: 0}, "runtime error: length -1 is above 0"},
		{api.Fault{Kind: api.FaultPanic, A: 1, B: 2, C: 3}, "runtime error: panic called with nil"},
		{api.Fault{}, ""},
		{api.Fault{Kind: api.FaultNone, A: 1, B: 2, C: 3}, ""},
		{api.Fault{Kind: 9, A: 1, B: 2, C: 3}, ""},
		{api.Fault{Kind: -1, A: 1, B: 2, C: 3}, ""},
		{api.Fault{Kind: 256 + api.FaultIndex}, ""},
		{api.Fault{Kind: api.FaultBounds}, ""},
		{api.Fault{Kind: api.FaultBounds, A: 1, B: 2, C: 3}, ""},
		{api.Fault{Kind: api.FaultBounds, A: 3, B: 3, C: 3}, ""},
		{api.Fault{Kind: api.FaultBounds, A: 0, B: 3, C: 3}, ""},
	} {
		if got := Text(x.f); got != x.want {
			t.Errorf("Text(%+v): %q, not %q", x.f, got, x.want)
		}
	}
}

// P7.3, P7.4: of all kinds and numbers; what is read back is told alike, and the fields that are told are the same.
func TestTextAndReadOfAllFaults(t *testing.T) {
	for _, kind := range kinds() {
		for _, a := range numbers() {
			for _, b := range numbers() {
				for _, c := range numbers() {
					f := api.Fault{Kind: kind, A: a, B: b, C: c}
					text := Text(f)
					if want := expectText(f); text != want {
						t.Fatalf("Text(%+v): %q, not %q", f, text, want)
					}
					got, e := Read(text)
					if want, wantErr := expectRead(text); got != want || e != wantErr {
						t.Fatalf("Read(%q): %+v, %d, not %+v, %d", text, got, e, want, wantErr)
					}
					if text != "" && (e != api.OK || got.Kind != kind || Text(got) != text) {
						t.Fatalf("Read(%q): %+v, %d, which tells %q", text, got, e, Text(got))
					}
				}
			}
		}
	}
}

// P7.4
func TestRead(t *testing.T) {
	for _, x := range []struct {
		s    string
		want api.Fault
	}{
		{"index out of range [5] with length 3", api.Fault{Kind: api.FaultIndex, A: 5, B: 3}},
		{"index out of range [1] with length 3", api.Fault{Kind: api.FaultIndex, A: 1, B: 3}},
		{"index out of range [-9223372036854775808] with length -1", api.Fault{Kind: api.FaultIndex, A: least, B: -1}},
		{"integer divide by zero", api.Fault{Kind: api.FaultDivide}},
		{"negative shift amount", api.Fault{Kind: api.FaultShift}},
		{"invalid memory address or nil pointer dereference", api.Fault{Kind: api.FaultNil}},
		{"slice bounds out of range [:9] with length 3", api.Fault{Kind: api.FaultBounds, B: 9, C: 3}},
		{"slice bounds out of range [:-1] with length 3", api.Fault{Kind: api.FaultBounds, B: -1, C: 3}},
		{"slice bounds out of range [:-1] with length -1", api.Fault{Kind: api.FaultBounds, B: -1, C: -1}},
		{"slice bounds out of range [:0] with length -1", api.Fault{Kind: api.FaultBounds, C: -1}},
		{"slice bounds out of range [5:2]", api.Fault{Kind: api.FaultBounds, A: 5, B: 2, C: 2}},
		{"slice bounds out of range [1:0]", api.Fault{Kind: api.FaultBounds, A: 1}},
		{"slice bounds out of range [-1:]", api.Fault{Kind: api.FaultBounds, A: -1}},
		{"no int in any", api.Fault{Kind: api.FaultAny}},
		{"length 201 is above 200", api.Fault{Kind: api.FaultLong, A: 201, B: 200}},
		{"length 5 is above 9", api.Fault{Kind: api.FaultLong, A: 5, B: 9}},
		{"panic called with nil", api.Fault{Kind: api.FaultPanic}},
	} {
		if got, e := Read("runtime error: " + x.s); got != x.want || e != api.OK {
			t.Errorf("Read(%q): %+v, %d, not %+v", x.s, got, e, x.want)
		}
		// Without its first words it is the text of no run-time error.
		if got, e := Read(x.s); got != (api.Fault{}) || e != api.ErrForm {
			t.Errorf("Read(%q) without its first words: %+v, %d", x.s, got, e)
		}
	}
}

// P7.4: ErrForm
func TestReadRefuses(t *testing.T) {
	for _, s := range []string{
		"", "runtime error", "runtime error:", "runtime error: ", "runtime error: x", "panic: 1",
		"runtime error: slice bounds out of range [1:2]", "runtime error: slice bounds out of range [2:2]", "runtime error: slice bounds out of range [-2:-3]",
		"runtime error: slice bounds out of range [5:-1]", "runtime error: slice bounds out of range [-1:2]", "runtime error: slice bounds out of range [0:]",
		"runtime error: slice bounds out of range [1:]", "runtime error: slice bounds out of range [:2] with length 3", "runtime error: slice bounds out of range [:3] with length 3",
		"runtime error: slice bounds out of range [:0] with length 0", "runtime error: slice bounds out of range [:]", "runtime error: slice bounds out of range [:9]",
		"runtime error: slice bounds out of range [5:2] with length 3", "runtime error: slice bounds out of range [:9] with length ", "runtime error: slice bounds out of range [:9] with length",
		"runtime error: index out of range [05] with length 3", "runtime error: index out of range [-0] with length 3", "runtime error: index out of range [+5] with length 3",
		"runtime error: index out of range [] with length 3", "runtime error: index out of range [5] with length ", "runtime error: index out of range [-] with length 3",
		"runtime error: index out of range [5] with length 03", "runtime error: index out of range [5-] with length 3", "runtime error: index out of range [--5] with length 3",
		"runtime error: index out of range [5] with length 3 ", "runtime error: index out of range [5] with length 3\n", " runtime error: index out of range [5] with length 3",
		"runtime error: index out of range [9223372036854775808] with length 3", "runtime error: index out of range [5] with length -9223372036854775809",
		"runtime error: index out of range [#] with length #", "runtime error: index out of range [5] with length #", "runtime error: index out of range [ 5] with length 3",
		"runtime error: index out of range [5]", "runtime error: index out of range 5 with length 3", "runtime error: Index out of range [5] with length 3",
		"runtime error: index out of range [5] with length 3 4", "runtime error: index out of range [1_0] with length 3", "runtime error: index out of range [0x5] with length 3",
		"runtime error: length 5 is above 9 ", "runtime error: length  is above 9", "runtime error: length 5 is above ", "runtime error: length 5 is above", "runtime error: length # is above #",
		"runtime error: integer divide by zero ", "runtime error: integer divide by zer", "runtime error:  integer divide by zero", "runtime error: integer divide by zerointeger divide by zero",
		"runtime error: runtime error: no int in any", "Runtime error: no int in any", "runtime error:\tno int in any", "runtime error: no int in any\x00",
		"runtime error: panic called with nil" + strings.Repeat("l", 1000), "runtime error: length " + strings.Repeat("9", 100000) + " is above 9",
	} {
		if f, e := Read(s); f != (api.Fault{}) || e != api.ErrForm {
			t.Errorf("Read(%.80q): %+v, %d", s, f, e)
		}
	}
}

// P7.4: texts that were right, with a byte taken out, put in or changed, and pieces of two of them joined.
func TestReadOfTextsByChance(t *testing.T) {
	chance := rand.New(rand.NewSource(7))
	some, right := numbers(), 0
	for range 200000 {
		text := Text(chosen(chance, some))
		switch at := chance.Intn(len(text) + 1); chance.Intn(4) {
		case 0:
			other := Text(chosen(chance, some))
			text = text[:at] + other[min(at, len(other)):]
		case 1:
			text = text[:at] + string("-0159[]: #"[chance.Intn(10)]) + text[at:]
		case 2:
			text = text[:at] + text[min(at+1, len(text)):]
		case 3:
			text = text[:at] + string("-0159[]: #"[chance.Intn(10)]) + text[min(at+1, len(text)):]
		}
		got, e := Read(text)
		if want, wantErr := expectRead(text); got != want || e != wantErr {
			t.Fatalf("Read(%q): %+v, %d, not %+v, %d", text, got, e, want, wantErr)
		}
		if e == api.OK {
			right++
		}
	}
	if right < 20000 || right > 180000 {
		t.Errorf("%d texts of 200000 are right", right)
	}
}

func chosen(chance *rand.Rand, from []int) api.Fault {
	pick := func() int { return from[chance.Intn(len(from))] }
	return api.Fault{Kind: 1 + chance.Intn(8), A: pick(), B: pick(), C: pick()}
}

// P7.5
func TestCheck(t *testing.T) {
	for _, x := range []struct {
		kind, a, b, c int
		want          api.Fault
	}{
		{api.CheckIndex, 3, 2, 9, api.Fault{}},
		{api.CheckIndex, 3, 5, 9, api.Fault{Kind: api.FaultIndex, A: 5, B: 3}},
		{api.CheckIndex, 3, -1, 9, api.Fault{Kind: api.FaultIndex, A: -1, B: 3}},
		{api.CheckSet, 3, 0, 9, api.Fault{}},
		{api.CheckSet, 3, 3, 9, api.Fault{Kind: api.FaultIndex, A: 3, B: 3}},
		{api.CheckCut, 3, 1, 2, api.Fault{}},
		{api.CheckCut, 3, 2, 1, api.Fault{Kind: api.FaultBounds, A: 2, B: 1, C: 3}},
		{api.CheckCut, 3, 0, 4, api.Fault{Kind: api.FaultBounds, A: 0, B: 4, C: 3}},
		{api.CheckDivide, 1, 0, 0, api.Fault{}},
		{api.CheckDivide, -1, 0, 0, api.Fault{}},
		{api.CheckDivide, 0, 1, 1, api.Fault{Kind: api.FaultDivide}},
		{api.CheckShift, 0, -1, -1, api.Fault{}},
		{api.CheckShift, 100, 0, 0, api.Fault{}},
		{api.CheckShift, -1, 0, 0, api.Fault{Kind: api.FaultShift}},
		{api.CheckCat, 0, 0, 5, api.Fault{}},
		{api.CheckCat, 150, 50, 5, api.Fault{}},
		{api.CheckCat, 150, 51, 5, api.Fault{Kind: api.FaultLong, A: 201, B: 200}},
		{api.CheckCat, 0, 201, 5, api.Fault{Kind: api.FaultLong, A: 201, B: 200}},
		{api.CheckCat, 1, greatest - 1, 5, api.Fault{Kind: api.FaultLong, A: greatest, B: 200}},
	} {
		if got, e := Check(x.kind, x.a, x.b, x.c); got != x.want || e != api.OK {
			t.Errorf("Check(%d, %d, %d, %d): %+v, %d, not %+v", x.kind, x.a, x.b, x.c, got, e, x.want)
		}
	}
}

// P7.5: what Check finds is what the function that the promise names finds; other kinds are ErrKind.
func TestCheckOfAllKinds(t *testing.T) {
	for _, kind := range kinds() {
		for _, a := range numbers() {
			for _, b := range numbers() {
				for _, c := range numbers() {
					want, wantErr := api.Fault{}, api.OK
					switch kind {
					case 1, 2:
						want = Index(b, a)
					case 3:
						want = Bounds(b, c, a)
					case 4:
						want = Operation(4, a)
					case 5:
						want = Operation(6, a)
					case 8:
						// Of lengths below 0, and of sums that run over, nothing is promised but an answer.
						if a < 0 || b < 0 || a+b < 0 {
							Check(kind, a, b, c)
							continue
						}
						want = Long(a+b, 200)
					default:
						wantErr = api.ErrKind
					}
					if got, e := Check(kind, a, b, c); got != want || e != wantErr {
						t.Fatalf("Check(%d, %d, %d, %d): %+v, %d, not %+v, %d", kind, a, b, c, got, e, want, wantErr)
					}
				}
			}
		}
	}
}
