package value

import (
	"fmt"
	"math"
	"math/rand"
	"reflect"
	"slices"
	"strings"
	"testing"

	"panicroad/api"
)

const (
	least    = math.MinInt64
	greatest = math.MaxInt64
)

// kinds are all kinds of the table, and some that are none of it, those among them that look like one in fewer bits.
func kinds() []int {
	return []int{least, -256, -8, -1, 0, 1, 2, 3, 4, 5, 6, 7, 8, 9, 10, 77, 255, 256, 257, 262, 1 << 32, 1<<32 + 1, 1<<32 + 6, greatest}
}

// numbers are ordinary ones, those at which something turns over, and those that are 0 in fewer bits.
func numbers() []int {
	return []int{least, least + 1, -1 << 32, -256, -10, -1, 0, 1, 2, 7, 10, 256, 1 << 32, 1 << 62, greatest}
}

func texts() []string {
	return []string{"", "a", "b", "ab", "aa", "a b", "A", "a\n", "\x00", "a\x00", "\x7f", "\x80", "\xff", "é", "nil", "1", "\"a\"", "a\xff"}
}

func lists() [][]int {
	return [][]int{nil, {}, {0}, {1}, {-1}, {0, 0}, {1, 2}, {2, 1}, {1, 2, 3}, {least, greatest}, {12, 3}, {1, 23}}
}

// values are values of all kinds with all fields filled, each field in turn with all that it may have.
func values() []api.Value {
	var all []api.Value
	for _, kind := range kinds() {
		all = append(all, api.Value{Kind: kind})
		for _, n := range numbers() {
			all = append(all, api.Value{Kind: kind, N: n}, api.Value{Kind: kind, N: n, S: "x", L: []int{9}})
		}
		for _, s := range texts() {
			all = append(all, api.Value{Kind: kind, S: s}, api.Value{Kind: kind, S: s, N: 5, L: []int{9}})
		}
		for _, l := range lists() {
			all = append(all, api.Value{Kind: kind, L: l}, api.Value{Kind: kind, L: l, N: 5, S: "x"})
		}
	}
	return all
}

// alike is whether two values have the same in all fields; a list without elements may be nil or not.
func alike(a, b api.Value) bool {
	return a.Kind == b.Kind && a.N == b.N && a.S == b.S && slices.Equal(a.L, b.L)
}

// P6.1
func TestShowTellsEachKind(t *testing.T) {
	for _, x := range []struct {
		v    api.Value
		want string
	}{
		{api.Value{}, ""},
		{api.Value{Kind: api.VNone, N: 1, S: "x", L: []int{1}}, ""},
		{api.Value{Kind: api.VInt}, "0"},
		{api.Value{Kind: api.VInt, N: 7}, "7"},
		{api.Value{Kind: api.VInt, N: -40, S: "x", L: []int{1}}, "-40"},
		{api.Value{Kind: api.VInt, N: least}, "-9223372036854775808"},
		{api.Value{Kind: api.VInt, N: greatest}, "9223372036854775807"},
		{api.Value{Kind: api.VBool}, "false"},
		{api.Value{Kind: api.VBool, S: "true", L: []int{1}}, "false"},
		{api.Value{Kind: api.VBool, N: 1}, "true"},
		{api.Value{Kind: api.VBool, N: -1}, "true"},
		{api.Value{Kind: api.VBool, N: 2}, "true"},
		{api.Value{Kind: api.VBool, N: 256}, "true"},
		{api.Value{Kind: api.VBool, N: 1 << 32}, "true"},
		{api.Value{Kind: api.VBool, N: least}, "true"},
		{api.Value{Kind: api.VText}, ""},
		{api.Value{Kind: api.VText, S: "a b", N: 1, L: []int{1}}, "a b"},
		{api.Value{Kind: api.VText, S: "\"\\\n\t\x00\xff"}, "\"\\\n\t\x00\xff"},
		{api.Value{Kind: api.VNil}, "nil"},
		{api.Value{Kind: api.VNil, N: 1, S: "x", L: []int{1}}, "nil"},
		{api.Value{Kind: api.VErr, S: "runtime error: x", N: 1}, "runtime error: x"},
		{api.Value{Kind: api.VErr}, ""},
		{api.Value{Kind: api.VErr, S: "\x00\xff\n"}, "\x00\xff\n"},
		{api.Value{Kind: api.VList}, "[]"},
		{api.Value{Kind: api.VList, L: []int{}, N: 1, S: "x"}, "[]"},
		{api.Value{Kind: api.VList, L: []int{5}}, "[5]"},
		{api.Value{Kind: api.VList, L: []int{0, -1, least, greatest}}, "[0 -1 -9223372036854775808 9223372036854775807]"},
		{api.Value{Kind: api.VPtr, N: 3, S: "x", L: []int{1}}, "pointer"},
		{api.Value{Kind: api.VPtr}, "pointer"},
		{api.Value{Kind: api.VFunc, N: 3, S: "x", L: []int{1}}, "func"},
		{api.Value{Kind: api.VFunc}, "func"},
		{api.Value{Kind: 9, N: 3, S: "x", L: []int{1}}, ""},
		{api.Value{Kind: -1, N: 3, S: "x", L: []int{1}}, ""},
		{api.Value{Kind: 256 + api.VInt, N: 3}, ""},
	} {
		if got := Show(x.v); got != x.want {
			t.Errorf("Show(%+v): %q, not %q", x.v, got, x.want)
		}
	}
}

// P6.1
func TestShowOfAllValues(t *testing.T) {
	for _, v := range values() {
		if got, want := Show(v), expectShow(v); got != want {
			t.Errorf("Show(%+v): %q, not %q", v, got, want)
		}
	}
}

// P6.1: a text may have any length, though sources' texts have not.
func TestShowOfLongValues(t *testing.T) {
	long := strings.Repeat("ab\xff", 10000)
	if got := Show(api.Value{Kind: api.VText, S: long}); got != long {
		t.Errorf("Show of a long text has %d bytes", len(got))
	}
	list := make([]int, 10*api.MaxList)
	if got, want := Show(api.Value{Kind: api.VList, L: list}), "["+strings.Repeat("0 ", len(list)-1)+"0]"; got != want {
		t.Errorf("Show of a long list has %d bytes", len(got))
	}
}

// P6.2
func TestLineJoinsWhatIsShown(t *testing.T) {
	one, text, none := api.Value{Kind: api.VInt, N: 1}, api.Value{Kind: api.VText, S: "a\n"}, api.Value{Kind: 9}
	for _, x := range []struct {
		l    []api.Value
		want string
	}{
		{nil, "\n"},
		{[]api.Value{}, "\n"},
		{[]api.Value{one}, "1\n"},
		{[]api.Value{one, text}, "1 a\n\n"},
		{[]api.Value{none}, "\n"},
		{[]api.Value{none, none}, " \n"},
		{[]api.Value{none, one, none}, " 1 \n"},
		{[]api.Value{{Kind: api.VText}, {Kind: api.VText}, {Kind: api.VText}}, "  \n"},
		{[]api.Value{{Kind: api.VList, L: []int{1, 2}}, {Kind: api.VNil}, {Kind: api.VBool, N: 3}}, "[1 2] nil true\n"},
		{[]api.Value{{Kind: api.VPtr}, {Kind: api.VFunc}, {Kind: api.VErr, S: "e"}}, "pointer func e\n"},
	} {
		if got := Line(x.l); got != x.want {
			t.Errorf("Line(%+v): %q, not %q", x.l, got, x.want)
		}
	}
}

// P6.2
func TestLineOfValuesByChance(t *testing.T) {
	chance, all := rand.New(rand.NewSource(1)), values()
	for range 20000 {
		list := make([]api.Value, chance.Intn(7))
		for i := range list {
			list[i] = all[chance.Intn(len(all))]
		}
		if got, want := Line(list), expectLine(list); got != want {
			t.Fatalf("Line(%+v): %q, not %q", list, got, want)
		}
	}
}

// P6.3
func TestPlainClearsWhatIsNotUsed(t *testing.T) {
	for kind, want := range map[int]api.Value{
		api.VNone:    {},
		api.VInt:     {Kind: api.VInt, N: -9},
		api.VBool:    {Kind: api.VBool, N: 1},
		api.VText:    {Kind: api.VText, S: "x"},
		api.VNil:     {Kind: api.VNil},
		api.VErr:     {Kind: api.VErr, S: "x"},
		api.VList:    {Kind: api.VList, L: []int{1, 2}},
		api.VPtr:     {Kind: api.VPtr, N: -9},
		api.VFunc:    {Kind: api.VFunc, N: -9},
		9:            {},
		-1:           {},
		256:          {},
		256 + 1:      {},
		1<<32 + 3:    {},
		least:        {},
		greatest:     {},
		least + 1:    {},
		greatest - 1: {},
	} {
		if got := Plain(api.Value{Kind: kind, N: -9, S: "x", L: []int{1, 2}}); !alike(got, want) {
			t.Errorf("Plain of the kind %d: %+v, not %+v", kind, got, want)
		}
	}
	if got := Plain(api.Value{Kind: api.VBool}); !alike(got, api.Value{Kind: api.VBool}) {
		t.Errorf("Plain of false: %+v", got)
	}
}

// P6.3: what is plain stays as it is, and is printed and compared as before.
func TestPlainOfAllValues(t *testing.T) {
	for _, v := range values() {
		plain := Plain(v)
		if want := expectPlain(v); !alike(plain, want) {
			t.Errorf("Plain(%+v): %+v, not %+v", v, plain, want)
		}
		if again := Plain(plain); !alike(again, plain) {
			t.Errorf("Plain(%+v): %+v", plain, again)
		}
		if Show(plain) != Show(v) {
			t.Errorf("Show(%+v): %q, not %q", plain, Show(plain), Show(v))
		}
		if plain.Kind == v.Kind && !Same(plain, v) {
			t.Errorf("Plain(%+v): %+v is not the same", v, plain)
		}
	}
}

// P6.3, and what holds everywhere: a list that comes out is new memory, spare room too.
func TestPlainSharesNothing(t *testing.T) {
	for size := range 5 {
		for spare := range 5 {
			room := []int{1, 2, 3, 4, 5, 6, 7, 8, 9}
			v := api.Value{Kind: api.VList, L: room[: size : size+spare]}
			first, second := Plain(v), Plain(v)
			fill(first.L, -1)
			if !slices.Equal(room, []int{1, 2, 3, 4, 5, 6, 7, 8, 9}) {
				t.Errorf("Plain shares its argument's list of %d with %d spare: %v", size, spare, room)
			}
			if !slices.Equal(second.L, room[:size]) {
				t.Errorf("two answers of Plain share a list of %d with %d spare: %v", size, spare, second.L)
			}
			fill(room, -2)
			if !slices.Equal(second.L, []int{1, 2, 3, 4}[:size]) {
				t.Errorf("Plain keeps its argument's list of %d with %d spare: %v", size, spare, second.L)
			}
		}
	}
}

// fill writes all over a list, its spare room too.
func fill(l []int, n int) {
	whole := l[:cap(l)]
	for i := range whole {
		whole[i] = n
	}
}

// P6.4
func TestSameLooksAtWhatIsUsed(t *testing.T) {
	for _, x := range []struct {
		a, b api.Value
		want bool
	}{
		{api.Value{}, api.Value{}, true},
		{api.Value{N: 1, S: "x", L: []int{1}}, api.Value{N: 2, S: "y"}, true},
		{api.Value{Kind: api.VInt, N: 1, S: "x", L: []int{1}}, api.Value{Kind: api.VInt, N: 1}, true},
		{api.Value{Kind: api.VInt, N: 1}, api.Value{Kind: api.VInt, N: 2}, false},
		{api.Value{Kind: api.VInt, N: 1}, api.Value{Kind: api.VInt, N: 1 + 1<<32}, false},
		{api.Value{Kind: api.VInt, N: 1}, api.Value{Kind: api.VBool, N: 1}, false},
		{api.Value{Kind: api.VInt}, api.Value{}, false},
		{api.Value{Kind: api.VBool, N: 1}, api.Value{Kind: api.VBool, N: -7, S: "x", L: []int{1}}, true},
		{api.Value{Kind: api.VBool, N: 256}, api.Value{Kind: api.VBool}, false},
		{api.Value{Kind: api.VBool, S: "x"}, api.Value{Kind: api.VBool}, true},
		{api.Value{Kind: api.VText, S: "a", N: 1, L: []int{1}}, api.Value{Kind: api.VText, S: "a"}, true},
		{api.Value{Kind: api.VText, S: "a"}, api.Value{Kind: api.VText, S: "b"}, false},
		{api.Value{Kind: api.VText, S: "a"}, api.Value{Kind: api.VText, S: "a\x00"}, false},
		{api.Value{Kind: api.VText, S: "a"}, api.Value{Kind: api.VErr, S: "a"}, false},
		{api.Value{Kind: api.VText, S: "a"}, api.Value{Kind: api.VText, S: "A"}, false},
		{api.Value{Kind: api.VErr, S: "a", N: 1}, api.Value{Kind: api.VErr, S: "a"}, true},
		{api.Value{Kind: api.VErr, S: "a"}, api.Value{Kind: api.VErr, S: "b"}, false},
		{api.Value{Kind: api.VNil, N: 1, S: "x", L: []int{1}}, api.Value{Kind: api.VNil}, true},
		{api.Value{Kind: api.VNil}, api.Value{}, false},
		{api.Value{Kind: api.VNil}, api.Value{Kind: api.VList}, false},
		{api.Value{Kind: api.VList, L: []int{}}, api.Value{Kind: api.VList, N: 1, S: "x"}, true},
		{api.Value{Kind: api.VList, L: []int{1, 2}}, api.Value{Kind: api.VList, L: []int{1, 2}}, true},
		{api.Value{Kind: api.VList, L: []int{1, 2}}, api.Value{Kind: api.VList, L: []int{2, 1}}, false},
		{api.Value{Kind: api.VList, L: []int{1, 2}}, api.Value{Kind: api.VList, L: []int{1}}, false},
		{api.Value{Kind: api.VList, L: []int{1, 2}}, api.Value{Kind: api.VList, L: []int{1, 2, 0}}, false},
		{api.Value{Kind: api.VPtr, N: 1, S: "x"}, api.Value{Kind: api.VPtr, N: 1, L: []int{1}}, true},
		{api.Value{Kind: api.VPtr, N: 1}, api.Value{Kind: api.VPtr, N: 2}, false},
		{api.Value{Kind: api.VPtr, N: 1}, api.Value{Kind: api.VFunc, N: 1}, false},
		{api.Value{Kind: api.VFunc, N: 1, S: "x"}, api.Value{Kind: api.VFunc, N: 1, L: []int{1}}, true},
		{api.Value{Kind: api.VFunc, N: 1}, api.Value{Kind: api.VFunc, N: 2}, false},
		{api.Value{Kind: 9, N: 1, S: "x", L: []int{1}}, api.Value{Kind: 9}, true},
		{api.Value{Kind: 9}, api.Value{Kind: 10}, false},
		{api.Value{Kind: 9}, api.Value{}, false},
		{api.Value{Kind: -1}, api.Value{}, false},
		{api.Value{Kind: 256 + api.VNil}, api.Value{Kind: api.VNil}, false},
	} {
		if got := Same(x.a, x.b); got != x.want {
			t.Errorf("Same(%+v, %+v): %v", x.a, x.b, got)
		}
		if got := Same(x.b, x.a); got != x.want {
			t.Errorf("Same(%+v, %+v): %v", x.b, x.a, got)
		}
	}
}

// P6.4, P6.6
func TestSameAndOrderOfAllPairs(t *testing.T) {
	all := values()
	for _, a := range all {
		for _, b := range all {
			if got, want := Same(a, b), expectSame(a, b); got != want {
				t.Fatalf("Same(%+v, %+v): %v", a, b, got)
			}
			got, e := Order(a, b)
			if want, wantErr := expectOrder(a, b); got != want || e != wantErr {
				t.Fatalf("Order(%+v, %+v): %d, %d, not %d, %d", a, b, got, e, want, wantErr)
			}
		}
	}
}

// P6.5
func TestMayOfEachKind(t *testing.T) {
	for _, v := range values() {
		want := v.Kind == 1 || v.Kind == 3 || v.Kind == 5
		if got := May(v); got != want {
			t.Errorf("May(%+v): %v", v, got)
		}
	}
}

// P6.6
func TestOrderByNumbersAndTexts(t *testing.T) {
	number := func(n int) api.Value { return api.Value{Kind: api.VInt, N: n, S: fmt.Sprint(-n), L: []int{-n}} }
	text := func(s string) api.Value { return api.Value{Kind: api.VText, S: s, N: -len(s), L: []int{-len(s)}} }
	for _, rising := range [][]api.Value{
		{number(least), number(least + 1), number(-10), number(-9), number(-1), number(0), number(1), number(9), number(10), number(greatest - 1), number(greatest)},
		{text(""), text("\x00"), text("\x00\x00"), text(" "), text("10"), text("9"), text("A"), text("Z"), text("a"), text("a\x00"), text("aa"), text("ab"), text("b"), text("z"), text("\x7f"), text("\x80"), text("é"), text("\xff"), text("\xff\x00")},
	} {
		for i, a := range rising {
			for j, b := range rising {
				if got, e := Order(a, b); got != ahead(i < j, i > j) || e != api.OK {
					t.Errorf("Order(%+v, %+v): %d, %d", a, b, got, e)
				}
			}
		}
	}
}

// P6.6: what is unlike is ErrType, also where neither kind has an order.
func TestOrderRefuses(t *testing.T) {
	for _, a := range kinds() {
		for _, b := range kinds() {
			want := api.ErrType
			switch {
			case a == b && (a == api.VInt || a == api.VText):
				want = api.OK
			case a == b:
				want = api.ErrKind
			}
			got, e := Order(api.Value{Kind: a, N: 1, S: "a", L: []int{1}}, api.Value{Kind: b, N: 2, S: "b", L: []int{2}})
			if e != want || e != api.OK && got != 0 {
				t.Errorf("Order of the kinds %d, %d: %d, %d, not %d", a, b, got, e, want)
			}
		}
	}
}

// What holds everywhere: lists that are handed in stay as they are, their spare room too.
func TestNothingHandedInIsChanged(t *testing.T) {
	room := []int{4, -5, 6, 7, 8}
	v := api.Value{Kind: api.VList, N: 3, S: "x", L: room[:3]}
	line := []api.Value{v, {Kind: api.VBool, N: 7, S: "x", L: room[1:2]}, {Kind: 77, N: 1, S: "y", L: room[:1]}, {Kind: api.VInt, N: 9}}
	before := fmt.Sprintf("%v %+v", room, line)
	for range 2 {
		Line(line[:2])
		for _, x := range line {
			Show(x)
			Plain(x)
			May(x)
			Same(v, x)
			Order(v, x)
		}
	}
	if after := fmt.Sprintf("%v %+v", room, line); after != before {
		t.Errorf("what was handed in is changed: %s, not %s", after, before)
	}
}

// What holds everywhere: the same arguments, the same answer, whatever was asked between.
func TestAnswersHangOnArgumentsAlone(t *testing.T) {
	all := values()
	first := make([]api.Value, len(all))
	for i, v := range all {
		first[i] = Plain(v)
	}
	for i := len(all) - 1; i >= 0; i-- {
		if again := Plain(all[i]); !reflect.DeepEqual(again, first[i]) {
			t.Errorf("Plain(%+v): %+v, then %+v", all[i], first[i], again)
		}
	}
}
