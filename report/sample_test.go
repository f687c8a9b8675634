package report

import (
	"math"
	"math/rand"
	"strings"

	"panicroad/api"
)

const (
	least    = math.MinInt64
	greatest = math.MaxInt64
)

// numbers are ordinary ones, and those at which something turns over.
func numbers() []int {
	return []int{least, least + 1, -1 << 32, -257, -256, -255, -10, -2, -1, 0, 1, 2, 3, 7, 9, 10, 127, 128, 255, 256, 257, 511, 512, 1 << 32, 1<<32 + 1, 1 << 62, greatest - 1, greatest}
}

// kinds are all kinds of values, and some that are none of the table, those among them that look like one in fewer bits.
func kinds() []int {
	return []int{least, -256, -1, 0, 1, 2, 3, 4, 5, 6, 7, 8, 9, 10, 255, 256, 256 + 1, 256 + 3, 256 + 5, 1 << 32, 1<<32 + 1, 1<<32 + 3, greatest}
}

// texts are ordinary ones, each byte by itself, marks and leads in all places, and lengths around MaxText.
func texts() []string {
	l := []string{
		"", "a b", "?", "nil", "1", "-0", "\"\"", "\\n", "a\"\n\x01", "\r\n", "é", "日本", "\n", "\n\tpanic: 1", "x [recovered]", " [recovered]", "[recovered]",
		"a [recovered] b", "x [recovered] [recovered]", "runtime error: ", "runtime error:", "runtime error: [recovered]", "runtime error:  [recovered]",
		"runtime error: no int in any", "runtime error: x\ny", "runtime error: \x7f", "runtime error: a\"b\\c", " runtime error: x", "a runtime error: x", "Runtime error: x",
		strings.Repeat("a", api.MaxText), strings.Repeat("a", api.MaxText+1), strings.Repeat("\"", api.MaxText), strings.Repeat("\\", api.MaxText+1),
		strings.Repeat("\xff\n", 500), "runtime error: " + strings.Repeat("long ", 500),
	}
	for c := range 256 {
		l = append(l, string([]byte{byte(c)}), "runtime error: "+string([]byte{'a', byte(c), 'b'}))
	}
	return l
}

// values are of all kinds, with all fields filled, and with each text and number.
func values() []api.Value {
	var all []api.Value
	for _, kind := range kinds() {
		all = append(all, api.Value{Kind: kind}, api.Value{Kind: kind, L: []int{4, -5}})
		for _, n := range numbers() {
			all = append(all, api.Value{Kind: kind, N: n, S: "runtime error: x", L: []int{9}})
		}
		for _, s := range texts() {
			all = append(all, api.Value{Kind: kind, N: 5, S: s, L: []int{9}})
		}
	}
	return all
}

// byChance is a list of panics with all that a panic may hold, right or not.
func byChance(chance *rand.Rand, all []api.Value) []api.Panic {
	l := make([]api.Panic, chance.Intn(6))
	for i := range l {
		l[i] = api.Panic{Serial: chance.Intn(9) - 2, Value: all[chance.Intn(len(all))], Recovered: chance.Intn(2) == 0, Aborted: chance.Intn(2) == 0}
	}
	return l
}

// pieces are what crashes are made of, and what they must not be made of.
func pieces() []string {
	return []string{
		"panic: ", "\tpanic: ", "\t", " ", "\n", " [recovered]", "[recovered]", " [recovered]\n", "1", "-7", "0", "-", "07", "9223372036854775807", "9223372036854775808",
		"\"", "\"a\"", "\"\\n\"", "\\", "\\t", "a", "runtime error: ", "runtime error: x", "panic:", "?", "\x00", "\x7f", "\xff", "\r", "+1", "1 ", "\"\x01\"",
	}
}

// spoiled is a text in which something is changed by chance.
func spoiled(chance *rand.Rand, s string) string {
	at := chance.Intn(len(s) + 1)
	to := min(len(s), at+chance.Intn(3))
	switch chance.Intn(4) {
	case 0:
		return s[:at] + s[to:]
	case 1:
		return s[:at] + string([]byte{byte(chance.Intn(256))}) + s[to:]
	case 2:
		l := pieces()
		return s[:at] + l[chance.Intn(len(l))] + s[to:]
	}
	return s[:at] + s[at:to] + s[at:]
}
