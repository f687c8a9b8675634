package scan

import (
	"math/rand"
	"slices"
	"strings"
	"testing"

	"panicroad/api"
)

// sameTokens fails unless Tokens answers what the forms ask for.
func sameTokens(t *testing.T, src string) {
	t.Helper()
	list, spot := Tokens(src)
	wantList, wantSpot := expect(src)
	if spot != wantSpot || !slices.Equal(list, wantList) {
		t.Fatalf("Tokens(%q): %v, %v; want %v, %v", src, list, spot, wantList, wantSpot)
	}
}

// wrongAt fails unless a source is refused with just this Spot.
func wrongAt(t *testing.T, src string, code api.Errno, line, col int) {
	t.Helper()
	list, spot := Tokens(src)
	if want := (api.Spot{Code: code, Line: line, Col: col}); spot != want || len(list) != 0 {
		t.Errorf("Tokens(%.60q): %d tokens, %v; want %v", src, len(list), spot, want)
	}
}

// hasTokens fails unless a source has just these tokens.
func hasTokens(t *testing.T, src string, want ...api.Token) {
	t.Helper()
	if list, spot := Tokens(src); spot != (api.Spot{}) || !slices.Equal(list, want) {
		t.Errorf("Tokens(%.60q): %v, %v; want %v", src, list, spot, want)
	}
}

// P2.1
func TestWords(t *testing.T) {
	for _, s := range strings.Fields(wordList) {
		if !Word(s) {
			t.Errorf("Word(%q) is false", s)
		}
		for _, other := range []string{s + " ", " " + s, s + "s", strings.ToUpper(s), s[1:], s[:len(s)-1], s + "\x00"} {
			if Word(other) != listed(wordList, other) {
				t.Errorf("Word(%q) is %v", other, Word(other))
			}
		}
	}
	for _, s := range []string{"", "len", "main", "panic", "recover", "println", "append", "exit", "goto", "+", "1", wordList} {
		if Word(s) {
			t.Errorf("Word(%q) is true", s)
		}
	}
}

// P2.1
func TestSigns(t *testing.T) {
	for _, s := range strings.Fields(signList) {
		if list, spot := Tokens(s); spot.Code != api.OK || len(list) == 0 || list[0] != (api.Token{Kind: api.TokSign, Text: s, Line: 1, Col: 1}) {
			t.Errorf("Tokens(%q): %v, %v", s, list, spot)
		}
	}
	for a := range 256 {
		sameTokens(t, string([]byte{byte(a)}))
		for b := range 256 {
			sameTokens(t, string([]byte{byte(a), byte(b)}))
		}
	}
}

// P2.2
func TestPassedOver(t *testing.T) {
	name := api.Token{Kind: api.TokName, Text: "a", Line: 1, Col: 4}
	hasTokens(t, " \t\ra", name, api.Token{Kind: api.TokSemi, Text: ";", Line: 1, Col: 5})
	hasTokens(t, " \t\ra \r\t", name, api.Token{Kind: api.TokSemi, Text: ";", Line: 1, Col: 8})
	hasTokens(t, "//#\x00\xff \"\\ 1a\r", []api.Token{}...)
	hasTokens(t, "+//a\n/", api.Token{Kind: api.TokSign, Text: "+", Line: 1, Col: 1}, api.Token{Kind: api.TokSign, Text: "/", Line: 2, Col: 1})
	hasTokens(t, "/ /", api.Token{Kind: api.TokSign, Text: "/", Line: 1, Col: 1}, api.Token{Kind: api.TokSign, Text: "/", Line: 1, Col: 3})
	hasTokens(t, "///\n+", api.Token{Kind: api.TokSign, Text: "+", Line: 2, Col: 1})
	hasTokens(t, `"//"+`, api.Token{Kind: api.TokText, Text: `"//"`, Line: 1, Col: 1}, api.Token{Kind: api.TokSign, Text: "+", Line: 1, Col: 5})
	for _, src := range []string{"\x0b", "\x0c", "\x00", "\xa0", "\x1f", "\x7f", "\xc2\x85", "é", "λ", ".", "#", "'", "`", "\\", "@", "$", "?", "~"} {
		wrongAt(t, src, api.ErrByte, 1, 1)
		wrongAt(t, "\na "+src, api.ErrByte, 2, 3)
	}
}

// P2.2
func TestNamesAndWords(t *testing.T) {
	long := "_abcdefghijklm09"
	for _, s := range []string{"a", "z", "A", "Z", "_", "__", "a1_Z9", "iff", "If", "func_", "_int", long} {
		hasTokens(t, s+"+", api.Token{Kind: api.TokName, Text: s, Line: 1, Col: 1}, api.Token{Kind: api.TokSign, Text: "+", Line: 1, Col: len(s) + 1})
	}
	wrongAt(t, long+"x", api.ErrName, 1, 1)
	wrongAt(t, "+"+long+"9+", api.ErrName, 1, 2)
	wrongAt(t, "continuecontinue_", api.ErrName, 1, 1)
	for _, s := range strings.Fields(wordList) {
		hasTokens(t, s+"+", api.Token{Kind: api.TokWord, Text: s, Line: 1, Col: 1}, api.Token{Kind: api.TokSign, Text: "+", Line: 1, Col: len(s) + 1})
	}
	hasTokens(t, "if(", api.Token{Kind: api.TokWord, Text: "if", Line: 1, Col: 1}, api.Token{Kind: api.TokSign, Text: "(", Line: 1, Col: 3})
}

// P2.2
func TestInts(t *testing.T) {
	for _, s := range []string{"0", "1", "9", "10", "2000", "9223372036854775807"} {
		hasTokens(t, "-"+s+"-", api.Token{Kind: api.TokSign, Text: "-", Line: 1, Col: 1}, api.Token{Kind: api.TokInt, Text: s, Line: 1, Col: 2}, api.Token{Kind: api.TokSign, Text: "-", Line: 1, Col: len(s) + 2})
	}
	for _, s := range []string{"00", "01", "1a", "1_000", "0x1F", "1e3", "9a_", "9223372036854775808", "18446744073709551616", "11111111111111111111111111"} {
		wrongAt(t, s, api.ErrNumber, 1, 1)
		wrongAt(t, "\n -"+s, api.ErrNumber, 2, 3)
	}
}

// P2.2
func TestTexts(t *testing.T) {
	full := strings.Repeat("x", 200)
	escaped := strings.Repeat(`\n`, 200)
	for _, s := range []string{`""`, `"a b"`, `"\""`, `"\\"`, `"\\\""`, `"\n\t"`, `" ~"`, `";"`, `"` + full + `"`, `"` + escaped + `"`} {
		hasTokens(t, s+"+", api.Token{Kind: api.TokText, Text: s, Line: 1, Col: 1}, api.Token{Kind: api.TokSign, Text: "+", Line: 1, Col: len(s) + 1})
	}
	hasTokens(t, `"\\""a"+`, api.Token{Kind: api.TokText, Text: `"\\"`, Line: 1, Col: 1}, api.Token{Kind: api.TokText, Text: `"a"`, Line: 1, Col: 5}, api.Token{Kind: api.TokSign, Text: "+", Line: 1, Col: 8})
	for _, s := range []string{`"`, `"a`, `"\"`, `"\`, `"\\\"`, `"\r"`, `"\x41"`, "\"\t\"", "\"\r\"", "\"\x7f\"", "\"\x1f\"", "\"é\"", "\"\x00\"", "\"a\nb\"", "\"a\\\nb\"", `"` + full + `x"`, `"` + escaped + `\t"`, `"` + full} {
		wrongAt(t, s, api.ErrText, 1, 1)
		wrongAt(t, "a\n\t"+s+"\n#", api.ErrText, 2, 2)
	}
}

// P2.2
func TestLongestSign(t *testing.T) {
	for src, want := range map[string]string{
		"<<<": "<< <", "<<=": "<< =", "<=<": "<= <", ">>>=": ">> >=", "===": "== =", "!==": "!= =", "&&&": "&& &", "|||": "|| |", ":=:": ":= :", "::=": ": :=", "=:=": "= :=",
		"!!": "! !", "++": "+ +", "+=": "+ =", "&^": "& ^", "<-": "< -", "--": "- -", "*/": "* /", "[]": "[ ]", "({": "( {", ";;": "; ;", "=!": "= !",
	} {
		list, spot := Tokens(src + "+")
		texts := []string{}
		for _, tok := range list {
			texts = append(texts, tok.Text)
		}
		if spot.Code != api.OK || strings.Join(texts, " ") != want+" +" {
			t.Errorf("Tokens(%q): %v, %v", src, list, spot)
		}
	}
}

// P2.3
func TestLineEnds(t *testing.T) {
	for _, s := range append(strings.Fields(wordList+" "+signList), ";", "a", "_1", "0", `""`, `"a"`) {
		kind, _, _ := expectFirst(s)
		tok := api.Token{Kind: kind, Text: s, Line: 1, Col: 1}
		ends := listed(closers+` a _1 0 "" "a"`, s)
		for _, tail := range []string{"", "\n", " \r\n", " // x\n", " //", "\n\n\n", "\n \n// y\n"} {
			want := []api.Token{tok}
			if ends {
				want = append(want, api.Token{Kind: api.TokSemi, Text: ";", Line: 1, Col: 1 + len(s) + strings.IndexByte(tail+"\n", '\n')})
			}
			hasTokens(t, s+tail, want...)
		}
	}
	for _, src := range []string{"", "\n", "\n\n\n", " \n//\n\t", "//"} {
		hasTokens(t, src, []api.Token{}...)
	}
	hasTokens(t, "a;\nb;", api.Token{Kind: api.TokName, Text: "a", Line: 1, Col: 1}, api.Token{Kind: api.TokSemi, Text: ";", Line: 1, Col: 2}, api.Token{Kind: api.TokName, Text: "b", Line: 2, Col: 1}, api.Token{Kind: api.TokSemi, Text: ";", Line: 2, Col: 2})
}

// P2.4
func TestPlaces(t *testing.T) {
	hasTokens(t, "x // y", api.Token{Kind: api.TokName, Text: "x", Line: 1, Col: 1}, api.Token{Kind: api.TokSemi, Text: ";", Line: 1, Col: 7})
	hasTokens(t, "\r\n\t+ // é\n\n  }\n",
		api.Token{Kind: api.TokSign, Text: "+", Line: 2, Col: 2}, api.Token{Kind: api.TokSign, Text: "}", Line: 4, Col: 3}, api.Token{Kind: api.TokSemi, Text: ";", Line: 4, Col: 4})
	hasTokens(t, "a // é",
		api.Token{Kind: api.TokName, Text: "a", Line: 1, Col: 1}, api.Token{Kind: api.TokSemi, Text: ";", Line: 1, Col: 8})
}

// P2.4
func TestFirstWrong(t *testing.T) {
	wrongAt(t, "# 1a", api.ErrByte, 1, 1)
	wrongAt(t, "1a #", api.ErrNumber, 1, 1)
	wrongAt(t, "a \"b\n1a #", api.ErrText, 1, 3)
	wrongAt(t, "a+\n\n 01 \"", api.ErrNumber, 3, 2)
	wrongAt(t, "abcdefghijklmnopqr \"\\q\"", api.ErrName, 1, 1)
	wrongAt(t, "// #\n#\n", api.ErrByte, 2, 1)
}

// P2.4
func TestTooManyTokens(t *testing.T) {
	full := strings.Repeat("+", api.MaxTokens)
	if list, spot := Tokens(full); len(list) != api.MaxTokens || spot != (api.Spot{}) {
		t.Errorf("MaxTokens signs: %d tokens, %v", len(list), spot)
	}
	wrongAt(t, full+"+", api.ErrFull, 1, api.MaxTokens+1)
	wrongAt(t, full+"\n //\n  a", api.ErrFull, 3, 3)
	wrongAt(t, full+" #", api.ErrByte, 1, api.MaxTokens+2)
	wrongAt(t, full+" 1a", api.ErrNumber, 1, api.MaxTokens+2)
	wrongAt(t, full+" \"", api.ErrText, 1, api.MaxTokens+2)
	wrongAt(t, full+" abcdefghijklmnopq", api.ErrName, 1, api.MaxTokens+2)
	wrongAt(t, full+"+ #", api.ErrFull, 1, api.MaxTokens+1)
	if list, spot := Tokens(full + " \n// x\n"); len(list) != api.MaxTokens || spot != (api.Spot{}) {
		t.Errorf("MaxTokens signs and a remark: %d tokens, %v", len(list), spot)
	}
	// The semicolon that an end stands for is counted, too.
	if list, spot := Tokens(full[2:] + "a"); len(list) != api.MaxTokens || spot != (api.Spot{}) {
		t.Errorf("MaxTokens with a semicolon: %d tokens, %v", len(list), spot)
	}
	wrongAt(t, full[1:]+"a", api.ErrFull, 1, api.MaxTokens+1)
	wrongAt(t, full[1:]+"a \n", api.ErrFull, 1, api.MaxTokens+2)
	wrongAt(t, full[1:]+"a\n#", api.ErrFull, 1, api.MaxTokens+1)
}

// P2.4
func TestTooLong(t *testing.T) {
	blanks := strings.Repeat(" ", api.MaxSource)
	hasTokens(t, blanks, []api.Token{}...)
	hasTokens(t, blanks[1:]+"+", api.Token{Kind: api.TokSign, Text: "+", Line: 1, Col: api.MaxSource})
	hasTokens(t, blanks[1:]+"a", api.Token{Kind: api.TokName, Text: "a", Line: 1, Col: api.MaxSource}, api.Token{Kind: api.TokSemi, Text: ";", Line: 1, Col: api.MaxSource + 1})
	for _, src := range []string{blanks + " ", blanks + "\n", blanks + "#", "#" + blanks, strings.Repeat("+", api.MaxSource+1), strings.Repeat("\x00", 1<<20)} {
		wrongAt(t, src, api.ErrLong, 0, 0)
	}
}

// P2.2, P2.3, P2.4
func TestTokensOfEveryShortSource(t *testing.T) {
	everyText([]string{"a", "if", "1", "0", "\"", "\\", "\n", "/", "<", "=", ";", " ", "}", "#"}, 4, func(src string) { sameTokens(t, src) })
}

// P2.2, P2.3, P2.4
func TestTokensOfMixedSources(t *testing.T) {
	pieces := append(strings.Fields(wordList+" "+signList), ";", " ", " ", "\n", "\n", "\t", "\r", "a", "x1", "_", "42", "0", `"a"`, `"\n\""`, "// r\n", "//")
	odd := append(slices.Clone(pieces), "#", "07", "\"", "\\", "é", "abcdefghijklmnopq")
	source := rand.New(rand.NewSource(2))
	for range 3000 {
		from := pieces
		if source.Intn(3) == 0 {
			from = odd
		}
		var b strings.Builder
		for range source.Intn(60) {
			b.WriteString(from[source.Intn(len(from))])
		}
		sameTokens(t, b.String())
	}
}

// P2.4: an answer is not touched by what is done to another one.
func TestTokensAreNew(t *testing.T) {
	one, _ := Tokens("a+b")
	two, _ := Tokens("a+b")
	_ = append(one[:1], api.Token{}, api.Token{}, api.Token{})
	want, _ := expect("a+b")
	if !slices.Equal(two, want) {
		t.Errorf("changed: %v", two)
	}
}

// P2.5
func TestShow(t *testing.T) {
	word := api.Token{Kind: api.TokWord, Text: "if", Line: -4, Col: 99}
	name := api.Token{Kind: api.TokName, Text: "a"}
	semi := api.Token{Kind: api.TokSemi, Text: ";", Line: 7}
	text := api.Token{Kind: api.TokText, Text: `"\n b"`}
	for _, c := range []struct {
		list []api.Token
		want string
	}{
		{nil, ""},
		{[]api.Token{name}, "a"},
		{[]api.Token{semi}, ";\n"},
		{[]api.Token{semi, semi}, ";\n;\n"},
		{[]api.Token{word, name, semi, text, text}, "if a ;\n\"\\n b\" \"\\n b\""},
		{[]api.Token{text, semi, word, semi}, "\"\\n b\" ;\nif ;\n"},
	} {
		before := slices.Clone(c.list)
		if s, e := Show(c.list); s != c.want || e != api.OK {
			t.Errorf("Show(%v): %q, %d; want %q", c.list, s, e, c.want)
		}
		if !slices.Equal(before, c.list) {
			t.Errorf("Show changed its list: %v", c.list)
		}
	}
}

// P2.5
func TestShowRefusesKinds(t *testing.T) {
	texts := append(strings.Fields(wordList+" "+signList),
		"", ";", ";;", "; ", "\n", " ", "a", "a ", " a", "a\n", "a//", "//", "a+", "+a", "+ ", "<<<", "<<=", "()", ".", "#", "é",
		"abcdefghijklmnop", "abcdefghijklmnopq", "0", "01", "1a", "-1", "1 ", "9223372036854775807", "9223372036854775808",
		`""`, `"a"`, `"a`, `a"`, `"`, `"\q"`, `"a""b"`, `"a" `, "\"\n\"", `"`+strings.Repeat("x", 200)+`"`, `"`+strings.Repeat("x", 201)+`"`)
	for _, text := range texts {
		kind := 0
		if text != "" {
			found, whole, wrong := expectFirst(text)
			if wrong == api.OK && whole == text {
				kind = found
			}
		}
		for k := -1; k <= 8; k++ {
			s, e := Show([]api.Token{{Kind: api.TokSign, Text: "+"}, {Kind: k, Text: text}})
			if right := k > 0 && k == kind; right != (e == api.OK) || !right && (e != api.ErrKind || s != "") {
				t.Errorf("Show of kind %d, %q: %q, %d", k, text, s, e)
			}
		}
	}
}

// P2.5
func TestShowLimits(t *testing.T) {
	plus, bad := api.Token{Kind: api.TokSign, Text: "+"}, api.Token{Kind: api.TokSign, Text: "?"}
	list := slices.Repeat([]api.Token{plus}, api.MaxTokens)
	if s, e := Show(list); s != strings.Repeat("+ ", api.MaxTokens-1)+"+" || e != api.OK {
		t.Errorf("Show of MaxTokens tokens: %d bytes, %d", len(s), e)
	}
	if s, e := Show(append(list, plus)); s != "" || e != api.ErrFull {
		t.Errorf("Show of MaxTokens + 1 tokens: %d bytes, %d", len(s), e)
	}
	if _, e := Show(append([]api.Token{bad}, list...)); e != api.ErrFull {
		t.Errorf("Show of too many and a wrong one: %d", e)
	}
	text := api.Token{Kind: api.TokText, Text: `"` + strings.Repeat("y", 200) + `"`}
	if s, e := Show(append(slices.Repeat([]api.Token{text}, 60), bad)); s != "" || e != api.ErrKind {
		t.Errorf("Show of too long a list with a wrong token: %d bytes, %d", len(s), e)
	}
}

// P2.5: just MaxSource bytes, with another last token and with a TokSemi as the last one.
func TestShowJustLongEnough(t *testing.T) {
	name, semi := api.Token{Kind: api.TokName, Text: "abcdefg"}, api.Token{Kind: api.TokSemi, Text: ";"}
	list := slices.Repeat([]api.Token{name}, 999)
	if s, e := Show(append(list, api.Token{Kind: api.TokName, Text: "abcdefgh"})); len(s) != api.MaxSource || e != api.OK {
		t.Errorf("%d bytes, %d", len(s), e)
	}
	if s, e := Show(append(list, api.Token{Kind: api.TokName, Text: "abcdefghi"})); s != "" || e != api.ErrLong {
		t.Errorf("%d bytes, %d", len(s), e)
	}
	five, six := api.Token{Kind: api.TokName, Text: "abcde"}, api.Token{Kind: api.TokName, Text: "abcdef"}
	if s, e := Show(append(list, five, semi)); len(s) != api.MaxSource || !strings.HasSuffix(s, " ;\n") || e != api.OK {
		t.Errorf("%d bytes, %d", len(s), e)
	}
	if s, e := Show(append(list, six, semi)); s != "" || e != api.ErrLong {
		t.Errorf("%d bytes, %d", len(s), e)
	}
}

// P2.5: what is shown of a source's tokens has the same tokens.
func TestShowOfTokens(t *testing.T) {
	src := "func f(a int) (r string) { // x\n\tdefer g(\"\\\"\", -1)\n\tif a<<2 >= 7 { return }\n}\n"
	list, _ := Tokens(src)
	shown, e := Show(list)
	again, spot := Tokens(shown)
	if e != api.OK || spot.Code != api.OK || len(list) == 0 || len(list) != len(again) {
		t.Fatalf("%v, %d; %v, %v", list, e, again, spot)
	}
	for i := range list {
		if list[i].Kind != again[i].Kind || list[i].Text != again[i].Text {
			t.Errorf("token %d: %v and %v", i, list[i], again[i])
		}
	}
}

// P2.6
func TestQuoteOfEachByte(t *testing.T) {
	for b := range 256 {
		said := string([]byte{'x', byte(b), 'y'})
		inner, wrong := said, api.OK
		switch {
		case b == '"' || b == '\\':
			inner = `x\` + said[1:]
		case b == 10:
			inner = `x\ny`
		case b == 9:
			inner = `x\ty`
		case b < 32 || b > 126:
			wrong = api.ErrText
		}
		quoted, e := Quote(said)
		if e != wrong || wrong == api.OK && quoted != `"`+inner+`"` || wrong != api.OK && quoted != "" {
			t.Errorf("Quote(%q): %q, %d", said, quoted, e)
		}
		if back, e := Unquote(quoted); wrong == api.OK && (back != said || e != api.OK) {
			t.Errorf("Unquote(%q): %q, %d", quoted, back, e)
		}
	}
}

// P2.6
func TestQuoteLimits(t *testing.T) {
	for _, piece := range []string{"x", "\n", "\"", "\\"} {
		full := strings.Repeat(piece, api.MaxText)
		quoted, e := Quote(full)
		if back, e2 := Unquote(quoted); e != api.OK || back != full || e2 != api.OK {
			t.Errorf("MaxText times %q: %d, %d", piece, e, e2)
		}
		if s, e := Quote(full + "x"); s != "" || e != api.ErrLong {
			t.Errorf("MaxText + 1 bytes: %q, %d", s, e)
		}
		if s, e := Unquote(quoted[:len(quoted)-1] + `x"`); s != "" || e != api.ErrText {
			t.Errorf("Unquote of MaxText + 1 bytes: %q, %d", s, e)
		}
	}
	if s, e := Quote(""); s != `""` || e != api.OK {
		t.Errorf("Quote of nothing: %q, %d", s, e)
	}
	if s, e := Quote("\x00" + strings.Repeat("x", api.MaxText)); s != "" || e != api.ErrLong {
		t.Errorf("too long and a wrong byte: %q, %d", s, e)
	}
	if s, e := Quote(strings.Repeat("x", api.MaxText-1) + "\x00"); s != "" || e != api.ErrText {
		t.Errorf("a wrong last byte: %q, %d", s, e)
	}
}

// P2.6: Unquote answers just where some text's Quote is what it was given.
func TestUnquoteIsQuoteBackwards(t *testing.T) {
	quotes := map[string]string{}
	everyText([]string{"\"", "\\", "\n", "\t", "n", "t", "r"}, 4, func(s string) {
		quoted, _ := Quote(s)
		quotes[quoted] = s
	})
	everyText([]string{"\"", "\\", "\n", "\t", "n", "t", "r"}, 6, func(quoted string) {
		want, isQuote := quotes[quoted]
		s, e := Unquote(quoted)
		if s != want || isQuote != (e == api.OK) || !isQuote && e != api.ErrText {
			t.Fatalf("Unquote(%q): %q, %d; want %q, %v", quoted, s, e, want, isQuote)
		}
	})
	for _, quoted := range []string{`"a" `, ` "a"`, `a""`, `'a'`, "`a`", `"` + strings.Repeat("x", 100000)} {
		if s, e := Unquote(quoted); s != "" || e != api.ErrText {
			t.Errorf("Unquote(%q): %q, %d", quoted, s, e)
		}
	}
}
