package alarm_test

import (
	"math"
	"math/rand"
	"slices"
	"testing"

	"meridian/alarm"
	"meridian/api"
)

// P13.5: the examples of the chapter.
func TestExampleOfRoots(t *testing.T) {
	web := [][]int{nil, {0}, {1}}
	l := []alarm.Alarm{{Part: 1, At: 10}, {Part: 2, At: 12}, {Part: 0, At: 5}}
	for wait, want := range map[int][]alarm.Alarm{
		10: {{Part: 0, At: 5}}, 5: {{Part: 0, At: 5}}, math.MaxInt: {{Part: 0, At: 5}},
		4: {{Part: 0, At: 5}, {Part: 1, At: 10}}, 2: {{Part: 0, At: 5}, {Part: 1, At: 10}},
		1: {{Part: 0, At: 5}, {Part: 1, At: 10}, {Part: 2, At: 12}}, 0: {{Part: 0, At: 5}, {Part: 1, At: 10}, {Part: 2, At: 12}},
	} {
		if roots := must[[]alarm.Alarm](t)(alarm.Roots(web, l, wait)); !slices.Equal(roots, want) {
			t.Error(wait, roots)
		}
	}
}

// explains follows the chapter's words.
func explains(web [][]int, b, a alarm.Alarm, wait int) bool {
	needs := false
	for _, part := range web[a.Part] {
		needs = needs || part == b.Part
	}
	before := b.At < a.At || b.At == a.At && b.Part < a.Part
	return needs && before && a.At-b.At <= wait
}

// P13.5, P13.6: the roots of any alarms; the first one is a root, and each other one
// has a chain of alarms to a root.
func TestRoots(t *testing.T) {
	r := rand.New(rand.NewSource(11))
	several := 0
	for range 20000 {
		web := make([][]int, r.Intn(21))
		for part := range web {
			web[part] = slices.DeleteFunc(anyParts(r, len(web), 1+r.Intn(6)), func(x int) bool { return x == part })
		}
		var l []alarm.Alarm
		latest := 1 + r.Intn(10)
		for _, part := range r.Perm(len(web))[:r.Intn(len(web)+1)] {
			l = append(l, alarm.Alarm{Part: part, At: r.Intn(latest)})
		}
		wait := r.Intn(5)
		roots := must[[]alarm.Alarm](t)(alarm.Roots(web, l, wait))
		ordered := slices.Clone(l)
		slices.SortFunc(ordered, func(a, b alarm.Alarm) int { return (a.At-b.At)*100 + a.Part - b.Part })
		var want []alarm.Alarm
		reached := map[alarm.Alarm]bool{} // those with a chain to a root
		for _, a := range ordered {
			is := true
			for _, b := range l {
				if explains(web, b, a, wait) {
					is = false
					reached[a] = reached[a] || reached[b]
				}
			}
			if is {
				want = append(want, a)
				reached[a] = true
			}
			if !reached[a] {
				t.Fatal(web, l, wait, a)
			}
		}
		if !slices.Equal(roots, want) || len(l) > 0 && roots[0] != ordered[0] {
			t.Fatal(web, l, wait, roots, want)
		}
		if len(roots) > 1 && len(roots) < len(l) {
			several++
		}
	}
	if several < 1000 {
		t.Error("seldom several roots", several)
	}
}

// P13.5: alarms of one second, parts that need each other, and the greatest numbers.
func TestRootsAtOnce(t *testing.T) {
	for _, x := range []struct {
		web  [][]int
		l    []alarm.Alarm
		wait int
		want []alarm.Alarm
	}{
		{[][]int{{1}, {0}}, []alarm.Alarm{{Part: 1, At: 3}, {Part: 0, At: 3}}, 0, []alarm.Alarm{{Part: 0, At: 3}}},
		{[][]int{{1}, {0}}, []alarm.Alarm{{Part: 1, At: 2}, {Part: 0, At: 3}}, 1, []alarm.Alarm{{Part: 1, At: 2}}},
		{[][]int{{1}, {0}}, []alarm.Alarm{{Part: 1, At: 2}, {Part: 0, At: 3}}, 0, []alarm.Alarm{{Part: 1, At: 2}, {Part: 0, At: 3}}},
		{[][]int{{1}, nil}, []alarm.Alarm{{Part: 0, At: 3}, {Part: 1, At: 3}}, 9, []alarm.Alarm{{Part: 0, At: 3}, {Part: 1, At: 3}}},
		{[][]int{{1}, nil}, []alarm.Alarm{{Part: 0, At: math.MaxInt}, {Part: 1}}, math.MaxInt, []alarm.Alarm{{Part: 1}}},
		{[][]int{{1}, nil}, []alarm.Alarm{{Part: 0, At: math.MaxInt}, {Part: 1}}, math.MaxInt - 1, []alarm.Alarm{{Part: 1}, {Part: 0, At: math.MaxInt}}},
		{[][]int{{1, 2}, nil, nil}, []alarm.Alarm{{Part: 0, At: 9}, {Part: 2, At: 8}}, 1, []alarm.Alarm{{Part: 2, At: 8}}},
		{[][]int{{2}, nil, {1}}, []alarm.Alarm{{Part: 0, At: 9}, {Part: 1, At: 9}}, 9, []alarm.Alarm{{Part: 0, At: 9}, {Part: 1, At: 9}}},
		{[][]int{nil, nil, nil}, []alarm.Alarm{{Part: 2, At: 1}, {Part: 1, At: 1}, {Part: 0, At: 2}}, 9, []alarm.Alarm{{Part: 1, At: 1}, {Part: 2, At: 1}, {Part: 0, At: 2}}},
		{nil, nil, 0, nil}, {[][]int{{}, {0}}, []alarm.Alarm{}, 0, nil},
	} {
		if roots := must[[]alarm.Alarm](t)(alarm.Roots(x.web, x.l, x.wait)); !slices.Equal(roots, x.want) {
			t.Error(x, roots)
		}
	}
}

// P13.5, R1: the errors, and their order.
func TestRootsErrors(t *testing.T) {
	web := [][]int{nil, {0, 2}, {1}}
	many := make([][]int, 21)
	many[0] = []int{0}
	wrong := []alarm.Alarm{{Part: -1, At: -1}}
	type call struct {
		web  [][]int
		l    []alarm.Alarm
		wait int
		want api.Errno
	}
	calls := []call{
		{many, wrong, -1, api.ErrMany}, {make([][]int, 21), nil, 0, api.ErrMany}, {make([][]int, 1000), nil, 0, api.ErrMany},
		{web, wrong, -1, api.ErrArg}, {web, wrong, math.MinInt, api.ErrArg}, {web, nil, -1, api.ErrArg}, {nil, nil, -1, api.ErrArg},
		{web, wrong, 0, api.ErrAlarm}, {nil, []alarm.Alarm{{}}, 0, api.ErrAlarm}, {web, []alarm.Alarm{{At: -1}}, 0, api.ErrAlarm}, {web, []alarm.Alarm{{Part: 2, At: math.MinInt}}, 0, api.ErrAlarm},
		{web, []alarm.Alarm{{Part: 1}, {Part: 0}, {Part: 1, At: 5}}, 0, api.ErrTwice}, {web, []alarm.Alarm{{Part: 1}, {Part: 1}}, 0, api.ErrTwice},
		{web, []alarm.Alarm{{Part: 1}, {Part: 1, At: -1}}, 0, api.ErrAlarm}, {web, []alarm.Alarm{{Part: 1}, {Part: 1}, {Part: 3}}, 0, api.ErrTwice}, {web, []alarm.Alarm{{Part: 1}, {Part: 3}, {Part: 1}}, 0, api.ErrAlarm},
		{web, make([]alarm.Alarm, 10000), 0, api.ErrTwice},
	}
	for _, needs := range [][]int{{-1}, {3}, {1}, {0, 1}, {1, 2}, {0, 0}, {2, 0}, {0, 2, 2}, {0, 2, 3}, {-1, 0}, {math.MinInt}, {math.MaxInt}, {20}, {32}, {64}} {
		bad := [][]int{{1}, needs, {0}}
		calls = append(calls, call{bad, wrong, -1, api.ErrArg}, call{bad, nil, 0, api.ErrArg}, call{bad, wrong, 5, api.ErrArg})
	}
	for part := range 3 {
		bad := [][]int{{1}, {2}, {0}}
		bad[part] = []int{part}
		calls = append(calls, call{bad, wrong, 0, api.ErrArg})
	}
	for _, part := range append(far, -1, 3, 20, 32, 64) {
		calls = append(calls, call{web, []alarm.Alarm{{Part: part}}, 0, api.ErrAlarm}, call{web, []alarm.Alarm{{Part: 2}, {Part: part}}, 0, api.ErrAlarm})
	}
	for i, x := range calls {
		if roots, e := alarm.Roots(x.web, x.l, x.wait); len(roots) != 0 || e != x.want {
			t.Error(i, roots, e, x.want)
		}
	}
}

// P13.5: all parts there can be.
func TestMostParts(t *testing.T) {
	web := make([][]int, 20)
	var l, late []alarm.Alarm
	for part := range web {
		for other := range web {
			if other != part {
				web[part] = append(web[part], other)
			}
		}
		l = append(l, alarm.Alarm{Part: 19 - part, At: 7})
		late = append(late, alarm.Alarm{Part: part, At: 2 * part})
	}
	if roots := must[[]alarm.Alarm](t)(alarm.Roots(web, l, 0)); !slices.Equal(roots, []alarm.Alarm{{Part: 0, At: 7}}) {
		t.Error(roots)
	}
	if roots := must[[]alarm.Alarm](t)(alarm.Roots(web, late, 1)); !slices.Equal(roots, late) {
		t.Error(roots)
	}
}
