package types

import (
	"regexp"
	"strings"
)

// A byte 1 stands for a type that was found: no type has one.
var (
	plainForm = regexp.MustCompile(`\[\]int|\*int|int|bool|string|any`)
	funcForm  = regexp.MustCompile("^func\\((?:\x01(?:,\x01){0,3})?\\)\x01?")
)

// expectValid is what Valid must answer, by forms: the function that begins last has no other one within it or behind it.
func expectValid(t string) bool {
	if len(t) > 100 || strings.Contains(t, "\x01") {
		return false
	}
	t = plainForm.ReplaceAllLiteralString(t, "\x01")
	for {
		last := strings.LastIndex(t, "func(")
		if last < 0 {
			return t == "\x01"
		}
		found := funcForm.FindString(t[last:])
		if found == "" {
			return false
		}
		t = t[:last] + "\x01" + t[last+len(found):]
	}
}

// expectParts are the parts of a function's type, by counting brackets.
func expectParts(t string) (params []string, result string) {
	open, begin := 0, len("func(")
	for at := begin; ; at++ {
		switch {
		case t[at] == '(':
			open++
		case t[at] == ')' && open > 0:
			open--
		case (t[at] == ')' || t[at] == ',') && open == 0:
			if at > begin {
				params = append(params, t[begin:at])
			}
			begin = at + 1
			if t[at] == ')' {
				return params, t[begin:]
			}
		}
	}
}

// expectNil is whether nil fits a type, by forms.
func expectNil(t string) bool {
	return t == "any" || t == "[]int" || t == "*int" || strings.HasPrefix(t, "func") && expectValid(t)
}

// everyText hands on each text of at most size letters of an alphabet.
func everyText(alphabet []string, size int, found func(string)) {
	found("")
	if size == 0 {
		return
	}
	for _, letter := range alphabet {
		everyText(alphabet, size-1, func(rest string) { found(letter + rest) })
	}
}

// someTypes are types of each kind, and functions of each shape.
func someTypes() []string {
	return []string{
		"int", "bool", "string", "any", "[]int", "*int",
		"func()", "func()int", "func()any", "func(int)", "func(int)int", "func(int,string)any", "func(any,[]int,*int,bool)string",
		"func()func()", "func()func()func()int", "func(func())", "func(func()int)", "func(func())int", "func(func()int,int)", "func(int,func()int)",
		"func(func(int,int)bool,func(func()))func(*int)[]int", "func(func(),func(),func(),func())func()", "func(func(int,int,int,int),int,int,int)func(int,int,int,int)",
		longest("bool"), nested("*int"),
	}
}

// noTypes are texts that are no types: nearly one, too long, and nothing of the kind.
func noTypes() []string {
	return []string{
		"", "nil", "func", "func(", "func)", "func(,)", "func(int,)", "func(,int)", "func(int,,int)", "func(int int)", "func(int;int)", "func(intint)",
		"func()nil", "func(nil)", "func(x)", "func()x", "func(())", "func())", "func(),", "func(),int", "func()()", "func()(int)", "func(int))int", "func()intint", "func()int,int", "func()int)", "func()func", "func()func(", "func(func)",
		"func(int,int,int,int,int)", "func(int,int,int,int,)", "func(func(int,int,int,int,int))", "func()func(int,int,int,int,int)",
		"int ", " int", "in t", "int\n", "int\x00", "\x00", "\x01", "func(\x01)", "Int", "INT", "i", "in", "inty", "int,", "int)", "(int)", "int()", "intint", "bool8", "strings", "anyany", "error", "float64", "void", "é",
		"[]", "[]bool", "[]string", "[][]int", "[ ]int", "[] int", "[1]int", "[]*int", "[]any", "[]func()", "*", "**int", "* int", "*bool", "*[]int", "*func()", "int*", "int[]",
		"func ()", "func( )", "func(int, int)", "func() int", " func()", "func() ", "Func()", "fun()", "func[]", "func{}", "func()[]", "func()[]bool", "func()*", "func(...int)",
		longest("[]int"), nested("[]int"), longest("string"), "func(" + longest("bool") + ")", strings.Repeat("func()", 17), strings.Repeat("func(", 17) + strings.Repeat(")", 17),
	}
}

// longest is a function whose result is one, and so on, with a last result: just MaxType bytes, if that one has four.
func longest(last string) string { return strings.Repeat("func()", 16) + last }

// nested is a function whose parameter is one, and so on, with a result: just MaxType bytes, if that one has four.
func nested(result string) string {
	return strings.Repeat("func(", 16) + strings.Repeat(")", 16) + result
}
