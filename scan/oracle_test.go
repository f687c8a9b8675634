package scan

import (
	"math"
	"math/big"
	"regexp"
	"strings"

	"panicroad/api"
)

const (
	wordList = "func var if else for break continue return defer true false nil int bool string any"
	signList = "+ - * / % & | ^ << >> && || == != < <= > >= = := ( ) { } [ ] , : !"
	// closers are the texts of those words and signs behind which a line's end stands for a semicolon.
	closers = "break continue return true false nil int bool string any ) ] }"
)

var (
	passedForm = regexp.MustCompile(`^(?:[ \t\r]|//[^\n]*)`)
	nameForm   = regexp.MustCompile(`^[A-Za-z_][A-Za-z_0-9]*`)
	runForm    = regexp.MustCompile(`^[0-9][A-Za-z_0-9]*`)
	intForm    = regexp.MustCompile(`^(?:0|[1-9][0-9]*)$`)
	textForm   = regexp.MustCompile(`^"((?:[ !#-\[\]-~]|\\["\\nt])*)"`)
	pieceForm  = regexp.MustCompile(`\\.|.`)
	signForm   = regexp.MustCompile(`^(?:<<|>>|&&|\|\||==|!=|<=|>=|:=|[-+*/%&|^<>=(){}\[\],:!])`)
)

// listed is whether a text is one of those of a list.
func listed(list, text string) bool {
	for _, s := range strings.Fields(list) {
		if s == text {
			return true
		}
	}
	return false
}

// place is where a byte of a source stands.
func place(src string, at int) (line, col int) {
	ahead := src[:at]
	return 1 + strings.Count(ahead, "\n"), at - strings.LastIndex(ahead, "\n")
}

// expectFirst is the token that begins a text, by forms.
func expectFirst(rest string) (kind int, text string, wrong api.Errno) {
	if text = nameForm.FindString(rest); text != "" {
		if len(text) > 16 {
			return 0, "", api.ErrName
		}
		if listed(wordList, text) {
			return api.TokWord, text, api.OK
		}
		return api.TokName, text, api.OK
	}
	if text = runForm.FindString(rest); text != "" {
		n, _ := new(big.Int).SetString(text, 10)
		if !intForm.MatchString(text) || n.Cmp(big.NewInt(math.MaxInt64)) > 0 {
			return 0, "", api.ErrNumber
		}
		return api.TokInt, text, api.OK
	}
	if rest[0] == '"' {
		found := textForm.FindStringSubmatch(rest)
		if found == nil || len(pieceForm.FindAllString(found[1], -1)) > 200 {
			return 0, "", api.ErrText
		}
		return api.TokText, found[0], api.OK
	}
	if rest[0] == ';' {
		return api.TokSemi, ";", api.OK
	}
	if text = signForm.FindString(rest); text != "" {
		return api.TokSign, text, api.OK
	}
	return 0, "", api.ErrByte
}

// expectEnd is whether a line's end behind these tokens stands for a semicolon.
func expectEnd(list []api.Token) bool {
	if len(list) == 0 {
		return false
	}
	switch last := list[len(list)-1]; last.Kind {
	case api.TokName, api.TokInt, api.TokText:
		return true
	default:
		return listed(closers, last.Text)
	}
}

// expect is what Tokens must answer, by forms.
func expect(src string) ([]api.Token, api.Spot) {
	if len(src) > 8000 {
		return nil, api.Spot{Code: api.ErrLong}
	}
	var list []api.Token
	for at := 0; at <= len(src); {
		rest := src[at:]
		if passed := passedForm.FindString(rest); passed != "" {
			at += len(passed)
			continue
		}
		line, col := place(src, at)
		kind, text, size, wrong := api.TokSemi, ";", 1, api.OK
		if rest == "" || rest[0] == '\n' {
			if !expectEnd(list) {
				at++
				continue
			}
		} else {
			kind, text, wrong = expectFirst(rest)
			size = len(text)
		}
		if wrong == api.OK && len(list) == 2000 {
			wrong = api.ErrFull
		}
		if wrong != api.OK {
			return nil, api.Spot{Code: wrong, Line: line, Col: col}
		}
		list = append(list, api.Token{Kind: kind, Text: text, Line: line, Col: col})
		at += size
	}
	return list, api.Spot{}
}

// everyText hands on each text of at most size letters of an alphabet.
func everyText(alphabet []string, size int, found func(string)) {
	found("")
	if size == 0 {
		return
	}
	for _, letter := range alphabet {
		everyText(alphabet, size-1, func(rest string) { found(letter + rest) })
	}
}
