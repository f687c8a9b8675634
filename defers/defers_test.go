package defers

import (
	"math"
	"math/rand"
	"reflect"
	"slices"
	"testing"

	"panicroad/api"
)

const (
	least    = math.MinInt64
	greatest = math.MaxInt64
)

// around are numbers at which something turns over, and such as look like a mask or a bit in fewer bits.
func around() []int {
	l := []int{least, least + 1, least + 5, -1 << 32, -1<<32 + 5, -257, -256, -255, -129, -128, -65, -64, 511, 512, 1023, 1 << 15, 1<<16 + 5, 1 << 31, 1 << 32, 1<<32 + 5, 1 << 62, greatest - 1, greatest}
	for n := -10; n <= 300; n++ {
		l = append(l, n)
	}
	return l
}

// sameCall is whether two calls have the same in all fields; no arguments may be nil or not.
func sameCall(a, b api.Call) bool {
	return a.Site == b.Site && a.Fn == b.Fn && slices.Equal(a.Args, b.Args)
}

func sameCalls(a, b []api.Call) bool { return slices.EqualFunc(a, b, sameCall) }

// isZero is whether a call is the zero one.
func isZero(c api.Call) bool { return sameCall(c, api.Call{}) }

// calls are calls of these sites, each with a function and arguments that no other one has.
func calls(sites ...int) []api.Call {
	var l []api.Call
	for i, site := range sites {
		c := api.Call{Site: site, Fn: 100 + i}
		for k := range i % 4 {
			c.Args = append(c.Args, 10*i+k)
		}
		l = append(l, c)
	}
	return l
}

// lists are lists of calls, among them such with sites, functions and arguments of any numbers.
func lists() [][]api.Call {
	l := [][]api.Call{nil, {}, {{}}, {{}, {}}, {{Args: []int{}}}, {{Site: least, Fn: greatest, Args: []int{greatest, least}}}, {{Site: 9}, {Site: -1}, {Site: 9}}}
	for n := range 20 {
		var sites []int
		for i := range n {
			sites = append(sites, i)
		}
		l = append(l, calls(sites...))
	}
	return append(l, calls(make([]int, 500)...))
}

// P8.1
func TestPushLaysOneBehind(t *testing.T) {
	for _, l := range lists() {
		for _, c := range []api.Call{{}, {Site: 3}, {Fn: 4}, {Args: []int{5}}, {Site: -1, Fn: least, Args: []int{greatest, 0, least}}} {
			got := Push(l, c)
			if len(got) != len(l)+1 || !sameCalls(got[:len(l)], l) || !sameCall(got[len(l)], c) {
				t.Errorf("Push(%v, %v): %v", l, c, got)
			}
		}
	}
}

// P8.2
func TestPopTakesTheLastOne(t *testing.T) {
	for _, l := range lists() {
		rest, c, ok := Pop(l)
		if len(l) == 0 {
			if len(rest) != 0 || !isZero(c) || ok {
				t.Errorf("Pop of nothing: %v, %v, %v", rest, c, ok)
			}
			continue
		}
		last := len(l) - 1
		if !sameCalls(rest, l[:last]) || !sameCall(c, l[last]) || !ok {
			t.Errorf("Pop(%v): %v, %v, %v", l, rest, c, ok)
		}
	}
}

// P8.2: of no calls, though behind them there is room with calls in it.
func TestPopSeesNoSpareRoom(t *testing.T) {
	room := calls(1, 2, 3)
	if rest, c, ok := Pop(room[:0]); len(rest) != 0 || !isZero(c) || ok {
		t.Errorf("%v, %v, %v", rest, c, ok)
	}
	if rest, c, ok := Pop(room[:1]); len(rest) != 0 || c.Site != 1 || !ok {
		t.Errorf("%v, %v, %v", rest, c, ok)
	}
}

// P8.1, P8.2: what is pushed and popped by chance, against a list that is kept beside.
func TestPushAndPopByChance(t *testing.T) {
	m := rand.New(rand.NewSource(81))
	var l, want []api.Call
	for i := range 20000 {
		if m.Intn(2) == 0 || i < 50 {
			c := api.Call{Site: m.Intn(9), Fn: i, Args: m.Perm(m.Intn(5))}
			l, want = Push(l, c), append(want, c)
		} else {
			rest, c, ok := Pop(l)
			if ok != (len(want) > 0) || ok && !sameCall(c, want[len(want)-1]) {
				t.Fatalf("step %d: %v, %v of %v", i, c, ok, want)
			}
			l, want = rest, want[:max(0, len(want)-1)]
		}
		if !sameCalls(l, want) {
			t.Fatalf("step %d: %v, not %v", i, l, want)
		}
	}
}

// bitsOf are the bits of a mask, rising, by dividing it.
func bitsOf(mask int) []int {
	var l []int
	for k := 0; mask > 0; k, mask = k+1, mask/2 {
		if mask%2 == 1 {
			l = append(l, k)
		}
	}
	return l
}

// maskOf is the mask of some bits, each told once.
func maskOf(l []int) int {
	mask, weights := 0, [8]int{1, 2, 4, 8, 16, 32, 64, 128}
	for _, k := range l {
		mask += weights[k]
	}
	return mask
}

// P8.3
func TestSetAndDropOfEachBit(t *testing.T) {
	for mask := range 256 {
		for k := range 8 {
			has := bitsOf(mask)
			others := slices.DeleteFunc(slices.Clone(has), func(b int) bool { return b == k })
			if got, e := Set(mask, k); got != maskOf(append(slices.Clone(others), k)) || e != api.OK {
				t.Errorf("Set(%d, %d): %d, %d", mask, k, got, e)
			}
			got, e := Drop(mask, k)
			if len(others) == len(has) && (got != 0 || e != api.ErrNone) {
				t.Errorf("Drop(%d, %d) of what is not set: %d, %d", mask, k, got, e)
			}
			if len(others) < len(has) && (got != maskOf(others) || e != api.OK) {
				t.Errorf("Drop(%d, %d): %d, %d", mask, k, got, e)
			}
		}
	}
}

// P8.3: what is no mask, or no bit, is out of range whatever bits the number has.
func TestSetAndDropRefuse(t *testing.T) {
	for _, mask := range around() {
		for _, k := range around() {
			if mask >= 0 && mask <= 255 && k >= 0 && k <= 7 {
				continue
			}
			if got, e := Set(mask, k); got != 0 || e != api.ErrRange {
				t.Fatalf("Set(%d, %d): %d, %d", mask, k, got, e)
			}
			if got, e := Drop(mask, k); got != 0 || e != api.ErrRange {
				t.Fatalf("Drop(%d, %d): %d, %d", mask, k, got, e)
			}
		}
	}
}

// P8.3
func TestTopIsTheHighestBit(t *testing.T) {
	for _, mask := range around() {
		k, ok := Top(mask)
		if mask <= 0 || mask > 255 {
			if k != 0 || ok {
				t.Errorf("Top(%d): %d, %v", mask, k, ok)
			}
			continue
		}
		if has := bitsOf(mask); k != has[len(has)-1] || !ok {
			t.Errorf("Top(%d): %d, %v", mask, k, ok)
		}
	}
	if k, ok := Top(1); k != 0 || !ok {
		t.Errorf("Top(1): %d, %v", k, ok)
	}
}

// P8.4
func TestOrderOfRecords(t *testing.T) {
	for _, l := range lists() {
		got, e := Order(false, l)
		if len(got) != len(l) || e != api.OK {
			t.Fatalf("Order(false, %v): %v, %d", l, got, e)
		}
		for i, c := range got {
			if !sameCall(c, l[len(l)-1-i]) {
				t.Errorf("Order(false, %v): %v", l, got)
			}
		}
	}
}

// P8.4: each set of bits, kept rising.
func TestOrderOfEachMask(t *testing.T) {
	for mask := range 256 {
		l := calls(bitsOf(mask)...)
		want := slices.Clone(l)
		slices.SortFunc(want, func(a, b api.Call) int { return b.Site - a.Site })
		if got, e := Order(true, l); !sameCalls(got, want) || e != api.OK {
			t.Errorf("Order(true, %v): %v, %d", l, got, e)
		}
	}
	for _, l := range [][]api.Call{nil, {}} {
		for _, open := range []bool{false, true} {
			if got, e := Order(open, l); len(got) != 0 || e != api.OK {
				t.Errorf("Order(%v) of nothing: %v, %d", open, got, e)
			}
		}
	}
}

// rise is whether sites are bits, each above the one ahead.
func rise(sites []int) bool {
	for i, site := range sites {
		if site < 0 || site > 7 || slices.ContainsFunc(sites[:i], func(ahead int) bool { return ahead >= site }) {
			return false
		}
	}
	return true
}

// sameOrder fails unless Order with open answers as P8.4 says of calls of these sites.
func sameOrder(t *testing.T, sites []int) {
	t.Helper()
	l := calls(sites...)
	got, e := Order(true, l)
	if !rise(sites) {
		if len(got) != 0 || e != api.ErrRange {
			t.Fatalf("Order(true) of the sites %v: %v, %d", sites, got, e)
		}
		return
	}
	slices.Reverse(l)
	if !sameCalls(got, l) || e != api.OK {
		t.Fatalf("Order(true) of the sites %v: %v, %d", sites, got, e)
	}
}

// P8.4
func TestOrderOfFewSites(t *testing.T) {
	for a := -2; a < 11; a++ {
		sameOrder(t, []int{a})
		for b := -2; b < 11; b++ {
			sameOrder(t, []int{a, b})
			for c := -2; c < 11; c++ {
				sameOrder(t, []int{a, b, c})
			}
		}
	}
	for _, far := range around() {
		sameOrder(t, []int{far})
		sameOrder(t, []int{2, far})
		sameOrder(t, []int{2, far, 5})
		sameOrder(t, []int{far, 5})
	}
	all := []int{0, 1, 2, 3, 4, 5, 6, 7}
	sameOrder(t, all)
	for _, more := range []int{-1, 0, 7, 8, greatest} {
		sameOrder(t, append(slices.Clone(all), more))
		sameOrder(t, append([]int{more}, all...))
	}
	sameOrder(t, make([]int, 300))
}

// P8.4: what is kept by records may be in the same place twice, and anywhere.
func TestOrderOfRecordsLooksAtNoSite(t *testing.T) {
	for _, sites := range [][]int{{3, 3}, {7, 0}, {-1}, {8}, {least, greatest, least}} {
		l := calls(sites...)
		got, e := Order(false, l)
		slices.Reverse(l)
		if !sameCalls(got, l) || e != api.OK {
			t.Errorf("Order(false) of the sites %v: %v, %d", sites, got, e)
		}
	}
}

// roomy are rising calls with room behind the list and behind each list of arguments.
func roomy() []api.Call {
	l := make([]api.Call, 0, 6)
	for i := range 4 {
		l = append(l, api.Call{Site: i, Fn: i, Args: append(make([]int, 0, 5), i, i+1)})
	}
	return l
}

// whole are calls with all of their room, and that of their arguments.
func whole(l []api.Call) []api.Call {
	l = slices.Clone(l[:cap(l)])
	for i, c := range l {
		l[i].Args = slices.Clone(c.Args[:cap(c.Args)])
	}
	return l
}

// spoil writes over all that can be reached from calls, spare room too.
func spoil(l []api.Call) {
	l = l[:cap(l)]
	for i := range l {
		spoilCall(l[i])
		l[i] = api.Call{Site: 77, Fn: 77, Args: []int{77}}
	}
}

func spoilCall(c api.Call) {
	args := c.Args[:cap(c.Args)]
	for i := range args {
		args[i] = 77
	}
}

// What holds everywhere: what comes out shares nothing with what was handed in.
func TestAnswersAreNewMemory(t *testing.T) {
	for name, ask := range map[string]func(l []api.Call){
		"Push":    func(l []api.Call) { spoil(Push(l[:3], l[3])) },
		"Pop":     func(l []api.Call) { rest, c, _ := Pop(l); spoil(rest); spoilCall(c) },
		"records": func(l []api.Call) { got, _ := Order(false, l); spoil(got) },
		"bits":    func(l []api.Call) { got, _ := Order(true, l); spoil(got) },
		"refused": func(l []api.Call) { got, _ := Order(true, append(slices.Clone(l), l[0])); spoil(got) },
	} {
		l := roomy()
		ask(l)
		if got, want := whole(l), whole(roomy()); !reflect.DeepEqual(got, want) {
			t.Errorf("%s: what was handed in became %v", name, got)
		}
	}
}

// What holds everywhere: nothing that was handed in is kept.
func TestNothingHandedInIsKept(t *testing.T) {
	l := roomy()
	pushed := Push(l[:3], l[3])
	rest, c, _ := Pop(l)
	records, _ := Order(false, l)
	byBits, _ := Order(true, l)
	spoil(l)
	want := roomy()
	if !sameCalls(pushed, want) || !sameCalls(rest, want[:3]) || !sameCall(c, want[3]) {
		t.Errorf("Push: %v; Pop: %v, %v", pushed, rest, c)
	}
	slices.Reverse(want)
	if !sameCalls(records, want) || !sameCalls(byBits, want) {
		t.Errorf("Order: %v, %v", records, byBits)
	}
}

// What holds everywhere: no two lists of an answer are one, though those handed in were.
func TestAnswersShareNoArguments(t *testing.T) {
	shared := []int{1, 2}
	l := []api.Call{{Site: 1, Args: shared}, {Site: 2, Args: shared}, {Site: 3, Args: shared[:1]}}
	rest, c, _ := Pop(l)
	records, _ := Order(false, l)
	byBits, _ := Order(true, l)
	for _, answer := range [][]api.Call{Push(l, l[0]), append(rest, c), records, byBits} {
		for i := range answer {
			spoilCall(answer[i])
			answer[i].Args = nil
			for _, other := range answer {
				if slices.Contains(other.Args, 77) {
					t.Fatalf("arguments are shared: %v", answer)
				}
			}
		}
	}
}

// What holds everywhere: two answers of one list share no room behind it.
func TestTwoPushesStayApart(t *testing.T) {
	l := Push(Push(nil, api.Call{Site: 1}), api.Call{Site: 2})
	a, b := Push(l, api.Call{Site: 3}), Push(l, api.Call{Site: 4})
	rest, _, _ := Pop(a)
	c := Push(rest, api.Call{Site: 5})
	if a[2].Site != 3 || b[2].Site != 4 || c[2].Site != 5 || len(l) != 2 {
		t.Errorf("%v, %v, %v", a, b, c)
	}
}
