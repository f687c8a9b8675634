package types

import (
	"math/rand"
	"reflect"
	"slices"
	"strings"
	"testing"

	"panicroad/api"
)

// sameParts fails unless Valid, Params and Result answer what the forms ask for.
func sameParts(t *testing.T, text string) {
	t.Helper()
	right := expectValid(text)
	if got := Valid(text); got != right {
		t.Fatalf("Valid(%q): %v; want %v", text, got, right)
	}
	var wantParams []string
	wantResult, wantErr := "", api.ErrType
	if right && strings.HasPrefix(text, "func") {
		wantParams, wantResult = expectParts(text)
		wantErr = api.OK
	}
	if p, e := Params(text); !slices.Equal(p, wantParams) || e != wantErr {
		t.Fatalf("Params(%q): %q, %d; want %q, %d", text, p, e, wantParams, wantErr)
	}
	if r, e := Result(text); r != wantResult || e != wantErr {
		t.Fatalf("Result(%q): %q, %d; want %q, %d", text, r, e, wantResult, wantErr)
	}
}

// hasParts fails unless a function's type has just these parts, and is made of them.
func hasParts(t *testing.T, text, result string, params ...string) {
	t.Helper()
	if p, e := Params(text); !slices.Equal(p, params) || e != api.OK {
		t.Errorf("Params(%q): %q, %d; want %q", text, p, e, params)
	}
	if r, e := Result(text); r != result || e != api.OK {
		t.Errorf("Result(%q): %q, %d; want %q", text, r, e, result)
	}
	if made, e := Func(params, result); made != text || e != api.OK {
		t.Errorf("Func(%q, %q): %q, %d; want %q", params, result, made, e, text)
	}
}

// refusesFunc fails unless Func answers just this error.
func refusesFunc(t *testing.T, code api.Errno, result string, params ...string) {
	t.Helper()
	if made, e := Func(params, result); made != "" || e != code {
		t.Errorf("Func(%.200q, %.200q): %q, %d; want %d", params, result, made, e, code)
	}
}

// P3.1
func TestValid(t *testing.T) {
	for _, s := range someTypes() {
		if !Valid(s) {
			t.Errorf("Valid(%q) is false", s)
		}
	}
	for _, s := range noTypes() {
		if Valid(s) {
			t.Errorf("Valid(%q) is true", s)
		}
	}
}

// P3.1: just MaxType bytes, and one more, whichever part makes it so long.
func TestValidLimits(t *testing.T) {
	for _, c := range []struct {
		text string
		size int
		want bool
	}{
		{longest("any"), 99, true}, {longest("bool"), 100, true}, {longest("*int"), 100, true}, {longest("[]int"), 101, false}, {longest("string"), 102, false},
		{nested("any"), 99, true}, {nested("bool"), 100, true}, {nested("[]int"), 101, false},
		{"func(" + nested("") + ")", 102, false}, {"func(int,int,int,int,int)", 25, false}, {"func(int,int,int,int)", 21, true},
		{"func(" + strings.Repeat("func()string,", 3) + "func()bool)" + strings.Repeat("func()", 7) + "int", 100, true},
		{"func(" + strings.Repeat("func()string,", 3) + "func()bool)" + strings.Repeat("func()", 7) + "bool", 101, false},
	} {
		if got := Valid(c.text); len(c.text) != c.size || got != c.want {
			t.Errorf("Valid(%q), %d bytes: %v; want %v of %d bytes", c.text, len(c.text), got, c.want, c.size)
		}
	}
	for _, s := range []string{strings.Repeat("func(", 1<<20), strings.Repeat("func()", 1<<20), strings.Repeat("int,", 1<<20), "int" + strings.Repeat(" ", 1<<20)} {
		if Valid(s) {
			t.Errorf("a text of %d bytes that begins with %q is a type", len(s), s[:9])
		}
	}
}

// P3.1, P3.2
func TestEveryShortText(t *testing.T) {
	everyText([]string{"int", "func", "(", ")", ",", "[]", "*", " ", "x"}, 5, func(s string) { sameParts(t, s) })
	everyText([]string{"any", "func(", ")", ","}, 8, func(s string) { sameParts(t, s) })
	for a := range 256 {
		sameParts(t, string([]byte{byte(a)}))
		sameParts(t, "func("+string([]byte{byte(a)})+")")
		sameParts(t, "func()"+string([]byte{byte(a)}))
		sameParts(t, "func(int"+string([]byte{byte(a)})+"int)")
		sameParts(t, "func(int)int"+string([]byte{byte(a)}))
	}
}

// randomType is a type with functions within one another, mostly.
func randomType(source *rand.Rand, deep int) string {
	if deep == 0 || source.Intn(4) == 0 {
		return []string{"int", "bool", "string", "any", "[]int", "*int"}[source.Intn(6)]
	}
	params := make([]string, source.Intn(6))
	for i := range params {
		params[i] = randomType(source, deep-1)
	}
	result := ""
	if source.Intn(2) == 0 {
		result = randomType(source, deep-1)
	}
	return "func(" + strings.Join(params, ",") + ")" + result
}

// P3.1, P3.2: types, and texts that are one byte away from them.
func TestMixedTexts(t *testing.T) {
	source := rand.New(rand.NewSource(3))
	right := 0
	for range 5000 {
		s := randomType(source, 1+source.Intn(3))
		sameParts(t, s)
		if Valid(s) {
			right++
		}
		at := source.Intn(len(s))
		sameParts(t, s[:at]+s[at+1:])
		sameParts(t, s[:at]+s[at:at+1]+s[at:])
		sameParts(t, s[:at]+"),([*fi \x00"[source.Intn(9):][:1]+s[at+1:])
	}
	if right < 1000 {
		t.Errorf("only %d types met", right)
	}
}

// P3.2, P3.3
func TestParts(t *testing.T) {
	hasParts(t, "func()", "")
	hasParts(t, "func()int", "int")
	hasParts(t, "func(int)", "", "int")
	hasParts(t, "func(int,string,any,[]int)*int", "*int", "int", "string", "any", "[]int")
	hasParts(t, "func()func()", "func()")
	hasParts(t, "func()func(int)func(any)bool", "func(int)func(any)bool")
	hasParts(t, "func(func())", "", "func()")
	hasParts(t, "func(func()int)", "", "func()int")
	hasParts(t, "func(func())int", "int", "func()")
	hasParts(t, "func(func()int)int", "int", "func()int")
	hasParts(t, "func(func()int,int)", "", "func()int", "int")
	hasParts(t, "func(func(),int)", "", "func()", "int")
	hasParts(t, "func(int,func()func()int,func(bool,any))func(any)", "func(any)", "int", "func()func()int", "func(bool,any)")
	hasParts(t, "func(func(func(int,int),int),int)func(func(int,int),int)", "func(func(int,int),int)", "func(func(int,int),int)", "int")
	hasParts(t, longest("bool"), longest("bool")[6:])
	hasParts(t, nested("bool"), "bool", nested("")[5:95])
}

// P3.2
func TestPartsOfOthers(t *testing.T) {
	for _, s := range append(noTypes(), "int", "bool", "string", "any", "[]int", "*int") {
		if p, e := Params(s); len(p) != 0 || e != api.ErrType {
			t.Errorf("Params(%q): %q, %d", s, p, e)
		}
		if r, e := Result(s); r != "" || e != api.ErrType {
			t.Errorf("Result(%q): %q, %d", s, r, e)
		}
	}
}

// P3.2: an answer is not touched by what is done to another one.
func TestParamsAreNew(t *testing.T) {
	one, _ := Params("func(int,any,bool)")
	two, _ := Params("func(int,any,bool)")
	_ = append(one[:0], "x", "x", "x", "x")
	if !slices.Equal(two, []string{"int", "any", "bool"}) {
		t.Errorf("changed: %q", two)
	}
}

// P3.2, P3.3: each function's type is what Func makes of its parts.
func TestFuncIsPartsBackwards(t *testing.T) {
	list := someTypes()
	for _, s := range list {
		if !strings.HasPrefix(s, "func") {
			continue
		}
		p, _ := Params(s)
		r, _ := Result(s)
		if made, e := Func(p, r); made != s || e != api.OK {
			t.Errorf("Func(%q, %q): %q, %d; want %q", p, r, made, e, s)
		}
	}
	for _, result := range append([]string{""}, list...) {
		for _, a := range list {
			for _, b := range list {
				if len(a)+len(b)+len(result) <= 93 {
					hasParts(t, "func("+a+","+b+")"+result, result, a, b)
				} else {
					refusesFunc(t, api.ErrLong, result, a, b)
				}
			}
		}
	}
}

// P3.3
func TestFuncRefusesWhatIsNoType(t *testing.T) {
	for _, s := range noTypes() {
		refusesFunc(t, api.ErrType, "", s)
		refusesFunc(t, api.ErrType, "int", s, "int")
		refusesFunc(t, api.ErrType, "", "int", "any", "bool", s)
		if s == "" {
			continue
		}
		refusesFunc(t, api.ErrType, s)
		refusesFunc(t, api.ErrType, s, "int", "int", "int", "int")
	}
	// These would be types in all, or would lay brackets and commas otherwise than the parts do.
	refusesFunc(t, api.ErrType, "", "int,int")
	refusesFunc(t, api.ErrType, "", "int)func(int")
	refusesFunc(t, api.ErrType, "", "func(int", "int)")
	refusesFunc(t, api.ErrType, ",int", "int")
	refusesFunc(t, api.ErrType, " ")
	refusesFunc(t, api.ErrType, strings.Repeat("x", 1<<20), strings.Repeat("func(", 1<<20))
}

// P3.3
func TestFuncLimits(t *testing.T) {
	if made, e := Func(nil, ""); made != "func()" || e != api.OK {
		t.Errorf("Func of nothing: %q, %d", made, e)
	}
	hasParts(t, "func(int,int,int,int)", "", "int", "int", "int", "int")
	refusesFunc(t, api.ErrFull, "", "int", "int", "int", "int", "int")
	refusesFunc(t, api.ErrFull, "x", "", "x", "int", "int", "int")
	refusesFunc(t, api.ErrFull, longest("bool"), slices.Repeat([]string{longest("bool")}, 1000)...)

	tail := longest("bool")[6:]
	hasParts(t, "func()"+tail, tail)
	refusesFunc(t, api.ErrLong, longest("[]int")[6:])
	refusesFunc(t, api.ErrLong, longest("bool"))
	refusesFunc(t, api.ErrLong, "", longest("bool"))
	refusesFunc(t, api.ErrLong, longest("bool"), longest("bool"), longest("bool"), longest("bool"), longest("bool"))
	refusesFunc(t, api.ErrType, longest("bool"), "int", "x")
	refusesFunc(t, api.ErrType, "x", longest("bool"))
	refusesFunc(t, api.ErrType, longest("[]int"))

	// Just MaxType bytes made of four parameters and a result, and one byte more in either.
	long, short, last := "func()string", "func()bool", strings.Repeat("func()", 7)
	hasParts(t, "func("+long+","+long+","+long+","+short+")"+last+"int", last+"int", long, long, long, short)
	refusesFunc(t, api.ErrLong, last+"bool", long, long, long, short)
	refusesFunc(t, api.ErrLong, last+"int", long, "func()[]int", long, long)
}

// P3.3: the list that is handed in stays as it is, its spare room too.
func TestFuncKeepsItsHandsOff(t *testing.T) {
	whole := []string{"int", "any", "spare", "spare"}
	if made, e := Func(whole[:2], "bool"); made != "func(int,any)bool" || e != api.OK {
		t.Errorf("Func: %q, %d", made, e)
	}
	if !slices.Equal(whole, []string{"int", "any", "spare", "spare"}) {
		t.Errorf("changed: %q", whole)
	}
}

// P3.4
func TestFits(t *testing.T) {
	all := append(someTypes(), noTypes()...)
	for _, from := range all {
		for _, to := range all {
			want := false
			switch {
			case from == "nil":
				want = expectNil(to)
			case from == to:
				want = slices.Contains(someTypes(), to)
			case to == "any":
				want = from == "int" || from == "string"
			}
			if got := Fits(from, to); got != want {
				t.Errorf("Fits(%q, %q): %v", from, to, got)
			}
		}
	}
}

// P3.4, P3.5: pairs that are easily taken for others.
func TestFitsAndComparesPairs(t *testing.T) {
	for _, c := range []struct {
		a, b           string
		fits, compares bool
	}{
		{"int", "int", true, true}, {"bool", "bool", true, true}, {"string", "string", true, true},
		{"any", "any", true, false}, {"[]int", "[]int", true, false}, {"*int", "*int", true, false}, {"func()", "func()", true, false}, {"func(int)any", "func(int)any", true, false},
		{"int", "any", true, false}, {"string", "any", true, false}, {"bool", "any", false, false}, {"[]int", "any", false, false}, {"*int", "any", false, false}, {"func()", "any", false, false},
		{"any", "int", false, false}, {"any", "string", false, false}, {"int", "string", false, false}, {"int", "bool", false, false}, {"int", "*int", false, false}, {"int", "[]int", false, false},
		{"nil", "any", true, true}, {"nil", "[]int", true, true}, {"nil", "*int", true, true}, {"nil", "func()", true, true}, {"nil", "func(any)func()", true, true}, {"nil", longest("bool"), true, true},
		{"any", "nil", false, true}, {"[]int", "nil", false, true}, {"*int", "nil", false, true}, {"func()", "nil", false, true}, {"func(any)func()", "nil", false, true},
		{"nil", "int", false, false}, {"nil", "bool", false, false}, {"nil", "string", false, false}, {"int", "nil", false, false}, {"bool", "nil", false, false}, {"string", "nil", false, false},
		{"nil", "nil", false, false}, {"nil", "", false, false}, {"", "nil", false, false}, {"nil", "func", false, false}, {"nil", "func(", false, false}, {"func(nil)", "nil", false, false}, {"nil", longest("[]int"), false, false},
		{"", "", false, false}, {"", "any", false, false}, {"x", "x", false, false}, {"x", "any", false, false}, {"func(", "func(", false, false}, {longest("[]int"), longest("[]int"), false, false}, {longest("bool"), longest("bool"), true, false},
		{"func()int", "func()any", false, false}, {"func(any)", "func(int)", false, false}, {"func()", "func()int", false, false},
	} {
		if got := Fits(c.a, c.b); got != c.fits {
			t.Errorf("Fits(%q, %q): %v", c.a, c.b, got)
		}
		if got := Compares(c.a, c.b); got != c.compares {
			t.Errorf("Compares(%q, %q): %v", c.a, c.b, got)
		}
	}
}

// P3.5
func TestCompares(t *testing.T) {
	all := append(someTypes(), noTypes()...)
	for _, a := range all {
		for _, b := range all {
			want := a == b && slices.Contains([]string{"int", "bool", "string"}, a)
			want = want || a == "nil" && expectNil(b) || b == "nil" && expectNil(a)
			if got := Compares(a, b); got != want {
				t.Errorf("Compares(%q, %q): %v", a, b, got)
			}
		}
	}
}

// P3.6
func TestZero(t *testing.T) {
	for _, s := range someTypes() {
		kind := api.VNil
		switch s {
		case "int":
			kind = api.VInt
		case "bool":
			kind = api.VBool
		case "string":
			kind = api.VText
		}
		if v, e := Zero(s); !reflect.DeepEqual(v, api.Value{Kind: kind}) || e != api.OK {
			t.Errorf("Zero(%q): %v, %d; want the kind %d", s, v, e, kind)
		}
	}
	for _, s := range noTypes() {
		if v, e := Zero(s); !reflect.DeepEqual(v, api.Value{}) || e != api.ErrType {
			t.Errorf("Zero(%q): %v, %d", s, v, e)
		}
	}
}
