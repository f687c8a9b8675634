package check

import (
	"math/rand"
	"testing"

	"panicroad/api"
	"panicroad/parse"
)

// sameCheck fails unless Check answers what the second reading does, and is the code.
func sameCheck(t *testing.T, src string, tree []api.Node) api.Errno {
	t.Helper()
	info, blame := Check(tree)
	want, wantBlame := expect(tree)
	if blame != wantBlame || !sameInfo(info, want) {
		t.Fatalf("%s\nCheck: %v, %v\nwant:  %v, %v", src, blame, info, wantBlame, want)
	}
	return blame.Code
}

// P5.1 to P5.6: programs made by chance, without slips and with some.
func TestByChance(t *testing.T) {
	t.Parallel()
	counts := map[api.Errno]int{}
	for seed := range 3000 {
		m := &maker{Rand: rand.New(rand.NewSource(int64(seed))), slips: []int{0, 60, 20}[seed%3]}
		src := m.program()
		tree, spot := parse.Parse(src)
		if spot.Code == api.OK {
			code := sameCheck(t, src, tree)
			counts[code]++
			if m.slips == 0 && code != api.OK {
				t.Fatalf("%d: %s", code, src)
			}
		} else if m.slips == 0 && spot.Code == api.ErrForm {
			t.Fatalf("no tree: %s", src)
		}
	}
	t.Log(counts)
	enough(t, counts)
}

// enough fails if one of the codes was met too seldom to say anything.
func enough(t *testing.T, counts map[api.Errno]int) {
	t.Helper()
	for _, code := range []api.Errno{api.OK, api.ErrName, api.ErrTwice, api.ErrType, api.ErrArgs, api.ErrPlace, api.ErrMain} {
		if counts[code] < 10 {
			t.Errorf("%d only %d times", code, counts[code])
		}
	}
}

// P5.1 to P5.6: programs that are right, with other tokens here and there.
func TestChangedByChance(t *testing.T) {
	t.Parallel()
	counts := map[api.Errno]int{}
	for seed := range 800 {
		m := &maker{Rand: rand.New(rand.NewSource(int64(seed)))}
		right := m.program()
		for range 20 {
			src := m.changed(right)
			if tree, spot := parse.Parse(src); spot.Code == api.OK {
				counts[sameCheck(t, src, tree)]++
			}
		}
	}
	t.Log(counts)
	enough(t, counts)
}
