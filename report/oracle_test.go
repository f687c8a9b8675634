package report

import (
	"fmt"
	"math/big"
	"regexp"
	"strings"

	"panicroad/api"
)

// expectText is what Text must answer, by a table of all 256 bytes.
func expectText(v api.Value) string {
	var table [256]string
	for c := range table {
		table[c] = "?"
		if c >= 32 && c <= 126 {
			table[c] = string(rune(c))
		}
	}
	switch v.Kind {
	case 1:
		return fmt.Sprintf("%d", v.N)
	case 3:
		table['"'], table['\\'], table[10], table[9] = `\"`, `\\`, `\n`, `\t`
		return `"` + replaced(v.S, table) + `"`
	case 5:
		return replaced(v.S, table)
	}
	return "?"
}

func replaced(s string, table [256]string) string {
	pieces := make([]string, len(s))
	for i := range pieces {
		pieces[i] = table[s[i]]
	}
	return strings.Join(pieces, "")
}

// expectCrash is what Crash must answer, from the last panic to the first.
func expectCrash(l []api.Panic) string {
	text := ""
	for i := len(l) - 1; i >= 0; i-- {
		line := "panic: " + expectText(l[i].Value)
		if l[i].Recovered {
			line += " [recovered]"
		}
		if i > 0 {
			line = "\t" + line
		}
		text = line + "\n" + text
	}
	return text
}

// The mark of a line is taken off ahead of all else: what stands between is looked at without it.
var (
	linePattern   = regexp.MustCompile(`\A(\t?)panic: (.*)\z`)
	markPattern   = regexp.MustCompile(`\A(.*) \[recovered\]\z`)
	formPattern   = regexp.MustCompile(`\A(?:0|-?[1-9][0-9]*|"(?:[ !#-\[\]-~]|\\["\\nt])*"|runtime error: [ -~]*)\z`)
	numberPattern = regexp.MustCompile(`\A-?[0-9]+\z`)
	escapes       = strings.NewReplacer(`\\`, `\`, `\"`, `"`, `\n`, "\n", `\t`, "\t")
)

// expectRead is what Read must answer, by patterns.
func expectRead(s string) ([]api.Panic, api.Errno) {
	if s == "" {
		return nil, api.OK
	}
	if !strings.HasSuffix(s, "\n") {
		return nil, api.ErrForm
	}
	var l []api.Panic
	for i, line := range strings.Split(strings.TrimSuffix(s, "\n"), "\n") {
		p, ok := expectPanic(line, i)
		if !ok {
			return nil, api.ErrForm
		}
		l = append(l, p)
	}
	return l, api.OK
}

// expectPanic is the panic of a line.
func expectPanic(line string, place int) (api.Panic, bool) {
	found := linePattern.FindStringSubmatch(line)
	if found == nil || (found[1] == "\t") != (place > 0) {
		return api.Panic{}, false
	}
	told := found[2]
	marked := markPattern.FindStringSubmatch(told)
	if marked != nil {
		told = marked[1]
	}
	if !formPattern.MatchString(told) {
		return api.Panic{}, false
	}
	v, ok := expectValue(told)
	return api.Panic{Serial: place, Value: v, Recovered: marked != nil}, ok
}

// expectValue is the value of a text that has one of the three forms.
func expectValue(told string) (api.Value, bool) {
	if numberPattern.MatchString(told) {
		exact, _ := new(big.Int).SetString(told, 10)
		return api.Value{Kind: 1, N: int(exact.Int64())}, exact.IsInt64()
	}
	if told[0] == '"' {
		said := escapes.Replace(told[1 : len(told)-1])
		return api.Value{Kind: 3, S: said}, len(said) <= 200
	}
	return api.Value{Kind: 5, S: told}, true
}

// expectShow is what Show says, by what fmt writes.
func expectShow(v api.Value) string {
	switch v.Kind {
	case 1:
		return fmt.Sprint(v.N)
	case 2:
		return fmt.Sprint(v.N != 0)
	case 3, 5:
		return v.S
	case 4:
		return "nil"
	case 6:
		return fmt.Sprint(v.L)
	case 7:
		return "pointer"
	case 8:
		return "func"
	}
	return ""
}

// told tells panics, whole; a list without elements may be nil or not.
func told(l []api.Panic) string {
	var b strings.Builder
	for _, p := range l {
		fmt.Fprintf(&b, "%d:%d,%d,%q,%v,%v,%v ", p.Serial, p.Value.Kind, p.Value.N, p.Value.S, p.Value.L, p.Recovered, p.Aborted)
	}
	return b.String()
}
