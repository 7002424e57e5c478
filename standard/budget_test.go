package standard_test

import (
	"math"
	"math/big"
	"math/rand"
	"slices"
	"strings"
	"testing"

	"meridian/api"
	"meridian/standard"
)

// abc are the quantities of the chapter's first example.
func abc() []standard.Quantity {
	return []standard.Quantity{quantity("a", whole(3), whole(1)), quantity("b", ratio(1, 2), ratio(1, 3)), quantity("c", whole(2), ratio(1, 4))}
}

// P5.3 and P5.4: the chapter's first example; the lines are in the order of the
// quantities, and there are none for those that are not named.
func TestBudgetExample(t *testing.T) {
	l, q := parsed(t, "a*b-c^2"), abc()
	if v, e := standard.Evaluate(l, q); v != ratio(-5, 2) || e != api.OK {
		t.Error(v, e)
	}
	lines := []standard.Line{{Name: "a", Slope: ratio(1, 2), Part: ratio(1, 4)}, {Name: "b", Slope: whole(3), Part: whole(1)}, {Name: "c", Slope: whole(-4), Part: whole(1)}}
	for _, x := range lines {
		if s, e := standard.Slope(l, q, x.Name); s != x.Slope || e != api.OK {
			t.Error(x.Name, s, e)
		}
	}
	for range 2 {
		q = slices.Insert(q, 1, quantity("unused", whole(part), whole(part)))
		isBudget(t, l, q, ratio(-5, 2), ratio(9, 4), lines)
		slices.Reverse(q)
		slices.Reverse(lines)
		q = slices.DeleteFunc(q, func(x standard.Quantity) bool { return x.Name == "unused" })
	}
}

// isBudget checks the budget of an expression.
func isBudget(t *testing.T, l []standard.Node, q []standard.Quantity, value, variance api.Ratio, lines []standard.Line) {
	t.Helper()
	b, e := standard.Account(l, q)
	if e != api.OK || b.Value != value || b.Variance != variance || !slices.Equal(b.Lines, lines) {
		t.Error(b, e)
	}
}

// P5.4: budgets without lines, with lines that are nothing, and of lists with
// nodes that the last one does not use: their quantities are named as well.
func TestBudgetOthers(t *testing.T) {
	q := abc()
	isBudget(t, parsed(t, "7/2"), q, ratio(7, 2), whole(0), nil)
	isBudget(t, parsed(t, "7/2"), nil, ratio(7, 2), whole(0), nil)
	isBudget(t, parsed(t, "a-a"), q, whole(0), whole(0), []standard.Line{{Name: "a", Slope: whole(0), Part: whole(0)}})
	isBudget(t, parsed(t, "c+0*b"), q, whole(2), ratio(1, 16), []standard.Line{{Name: "b", Slope: whole(0), Part: whole(0)}, {Name: "c", Slope: whole(1), Part: ratio(1, 16)}})
	isBudget(t, []standard.Node{name("a"), name("b")}, q, ratio(1, 2), ratio(1, 9), []standard.Line{{Name: "a", Slope: whole(0), Part: whole(0)}, {Name: "b", Slope: whole(1), Part: ratio(1, 9)}})
	isBudget(t, []standard.Node{name("a"), node(standard.Times, 0, 0), node(standard.Plus, 1, 1)}, q, whole(18), whole(144), []standard.Line{{Name: "a", Slope: whole(12), Part: whole(144)}})
}

// P5.3: values of all Ops by hand; what does not belong to an Op does not matter.
func TestEvaluateOps(t *testing.T) {
	q := abc()
	for text, want := range map[string]api.Ratio{
		"7": whole(7), "a": whole(3), "a+b": ratio(7, 2), "a-b": ratio(5, 2), "b-a": ratio(-5, 2), "a*b": ratio(3, 2), "a/b": whole(6), "b/a": ratio(1, 6),
		"-b": ratio(-1, 2), "b^2": ratio(1, 4), "-b^2": ratio(-1, 4), "(-b)^2": ratio(1, 4), "a/-c": ratio(-3, 2), "0/a": whole(0), "a/b/c": whole(3), "a/(b/c)": whole(12), "a-b-c": ratio(1, 2), "a-(b-c)": ratio(9, 2),
	} {
		if v, e := standard.Evaluate(parsed(t, text), q); v != want || e != api.OK {
			t.Error(text, v, e)
		}
	}
	other := []standard.Node{
		{Op: standard.Number, Left: -1, Right: 99, Name: "A", Value: ratio(-7, 3)},
		{Op: standard.Name, Left: math.MinInt, Right: 1, Name: "a", Value: ratio(2, 2)},
		{Op: standard.Negate, Left: 1, Right: math.MaxInt, Name: "none", Value: ratio(0, 0)},
		{Op: standard.Plus, Left: 0, Right: 2, Name: "none", Value: ratio(next, 1)},
	}
	if v, e := standard.Evaluate(other, q); v != ratio(-16, 3) || e != api.OK {
		t.Error(v, e)
	}
	if s, e := standard.Slope(other, q, "a"); s != whole(-1) || e != api.OK {
		t.Error(s, e)
	}
}

// P5.3: slopes of all Ops by hand.
func TestSlopeOps(t *testing.T) {
	q := abc() // 3, 1/2 and 2
	for text, want := range map[string][3]api.Ratio{
		"7":       {whole(0), whole(0), whole(0)},
		"a":       {whole(1), whole(0), whole(0)},
		"a+b":     {whole(1), whole(1), whole(0)},
		"a-b":     {whole(1), whole(-1), whole(0)},
		"a*b":     {ratio(1, 2), whole(3), whole(0)},
		"a*a":     {whole(6), whole(0), whole(0)},
		"a/b":     {whole(2), whole(-12), whole(0)},
		"a/a":     {whole(0), whole(0), whole(0)},
		"c^2":     {whole(0), whole(0), whole(4)},
		"-a":      {whole(-1), whole(0), whole(0)},
		"(a*c)^2": {whole(24), whole(0), whole(36)},
		"1/(b*c)": {whole(0), whole(-2), ratio(-1, 2)},
	} {
		for i, x := range q {
			if s, e := standard.Slope(parsed(t, text), q, x.Name); s != want[i] || e != api.OK {
				t.Error(text, x.Name, s, e)
			}
		}
	}
}

// fails checks that all three functions return the same error, and nothing else.
func fails(t *testing.T, l []standard.Node, q []standard.Quantity, want api.Errno) {
	t.Helper()
	if v, e := standard.Evaluate(l, q); e != want || v != (api.Ratio{}) {
		t.Error("Evaluate", v, e, want)
	}
	for _, name := range []string{"a", "none", ""} {
		if s, e := standard.Slope(l, q, name); e != want || s != (api.Ratio{}) {
			t.Error("Slope", s, e, want)
		}
	}
	if b, e := standard.Account(l, q); e != want || b.Value != (api.Ratio{}) || b.Variance != (api.Ratio{}) || len(b.Lines) != 0 {
		t.Error("Account", b, e, want)
	}
}

// P5.3: which quantities are allowed.
func TestQuantities(t *testing.T) {
	one := parsed(t, "1")
	for _, name := range []string{"", "A", "aB", "a1", "1", "a b", " a", "a-b", "a`", "{", "é", "a\x00", "abcdefghijklm", strings.Repeat("a", 1000)} {
		fails(t, one, []standard.Quantity{quantity("a", whole(1), whole(1)), quantity(name, whole(1), whole(1))}, api.ErrRange)
	}
	for _, wrong := range notNumbers() {
		fails(t, one, []standard.Quantity{quantity("a", wrong, whole(1))}, api.ErrRange)
		fails(t, one, []standard.Quantity{quantity("a", whole(1), wrong)}, api.ErrRange)
	}
	for _, x := range edges() {
		if v, e := standard.Evaluate(parsed(t, "abcdefghijkl"), []standard.Quantity{quantity("abcdefghijkl", x, whole(0))}); v != x || e != api.OK {
			t.Error(x, v, e)
		}
		q := []standard.Quantity{quantity("z", whole(1), x)}
		if x.N < 0 {
			fails(t, one, q, api.ErrRange)
		} else if v, e := standard.Evaluate(one, q); v != whole(1) || e != api.OK {
			t.Error(x, v, e)
		}
	}
}

// P5.3: what is no expression.
func TestNoExpression(t *testing.T) {
	a, q := name("a"), []standard.Quantity{quantity("a", whole(1), whole(1))}
	for _, l := range [][]standard.Node{
		nil,
		{},
		slices.Repeat([]standard.Node{a}, 41),
		{{}},
		{{Op: 9}},
		{{Op: -1}},
		{{Op: math.MinInt}},
		{{Op: math.MaxInt}},
		{{}, a},
		{name("b")},
		{name("")},
		{name("b"), a},
		{node(standard.Negate, 0)},
		{node(standard.Plus, 0, 0), a},
		{a, node(standard.Square, 1)},
		{a, node(standard.Square, -1)},
		{a, node(standard.Negate, math.MaxInt)},
		{a, node(standard.Negate, math.MinInt)},
		{a, node(standard.Plus, 0, 1)},
		{a, node(standard.Plus, 1, 0)},
		{a, node(standard.Over, -1, 0)},
		{a, node(standard.Minus, 0, -1)},
		{a, node(standard.Times, 0, 2), a},
	} {
		fails(t, l, q, api.ErrArg)
	}
	for _, wrong := range notNumbers() {
		fails(t, []standard.Node{{Op: standard.Number, Value: wrong}, a}, q, api.ErrArg)
	}
	if v, e := standard.Evaluate(slices.Repeat([]standard.Node{a}, 40), q); v != whole(1) || e != api.OK {
		t.Error(v, e)
	}
	fails(t, []standard.Node{a}, nil, api.ErrArg)
}

// P5.3: the errors of Evaluate in their order.
func TestEvaluateErrors(t *testing.T) {
	a, zero, large := quantity("a", whole(1), whole(1)), quantity("zero", whole(0), whole(1)), quantity("large", whole(part), whole(1))
	wrong := quantity("A", whole(1), whole(1))
	all := []standard.Quantity{a, zero, large}
	many := slices.Repeat([]standard.Quantity{wrong, a}, 7)[:13]
	fails(t, nil, many, api.ErrMany)
	fails(t, parsed(t, "a/zero"), slices.Repeat(all, 5)[:13], api.ErrMany)
	fails(t, nil, many[:12], api.ErrRange)
	fails(t, nil, []standard.Quantity{a, a, wrong}, api.ErrRange)
	fails(t, nil, []standard.Quantity{wrong, a, a}, api.ErrRange)
	fails(t, nil, []standard.Quantity{a, zero, a}, api.ErrTwice)
	fails(t, nil, slices.Repeat([]standard.Quantity{a}, 12), api.ErrTwice)
	fails(t, parsed(t, "a/zero"), append(all, large), api.ErrTwice)
	fails(t, parsed(t, "a/zero+b"), all, api.ErrArg)
	fails(t, parsed(t, "large+large+b"), all, api.ErrArg)
	for text, e := range map[string]api.Errno{
		"a/zero": api.ErrDivide, "zero/zero": api.ErrDivide, "a/(a-a)": api.ErrDivide, "large/0": api.ErrDivide, "1/(zero*large)^2": api.ErrDivide,
		"a/zero+large*large": api.ErrDivide, "large*large+a/zero": api.ErrLarge, "large^2*zero": api.ErrLarge,
		"large+a": api.ErrLarge, "-large-a": api.ErrLarge, "large*2": api.ErrLarge, "large^2": api.ErrLarge, "a/large/2": api.ErrLarge, "large/(1/2)": api.ErrLarge, "large*large/large/large": api.ErrLarge, "(a/large)^2": api.ErrLarge, "1/large+1/(large-1)": api.ErrLarge,
	} {
		fails(t, parsed(t, text), all, e)
	}
	// nodes that the last one does not use count as well
	fails(t, []standard.Node{name("a"), name("zero"), node(standard.Over, 0, 1), name("a")}, all, api.ErrDivide)
	fails(t, []standard.Node{name("large"), node(standard.Square, 0), name("a")}, all, api.ErrLarge)
	twelve := all
	for c := range 9 {
		twelve = append(twelve, quantity("q"+string(rune('a'+c)), whole(c), whole(c)))
	}
	if v, e := standard.Evaluate(parsed(t, "large-qi+zero+qh"), twelve); v != whole(part-1) || e != api.OK {
		t.Error(v, e)
	}
	fails(t, parsed(t, "large-qi+zero+qh"), append(twelve, quantity("more", whole(1), whole(1))), api.ErrMany)
}

// P5.3: a slope is asked for of a quantity that there is; then no part of a
// formula may be too large, even if the slope itself is not.
func TestSlopeErrors(t *testing.T) {
	q := []standard.Quantity{
		quantity("a", whole(1), whole(0)), quantity("b", whole(part), whole(0)), quantity("h", ratio(1, 2), whole(0)), quantity("z", whole(0), whole(0)),
		quantity("m", whole(100000), whole(0)), quantity("s", ratio(1, part), whole(0)), quantity("x", whole(part/2), whole(0)),
	}
	for _, c := range []struct {
		text, name string
		want       api.Ratio
		e          api.Errno
	}{
		// errors of Evaluate, and names of none
		{"b*b", "a", api.Ratio{}, api.ErrLarge},
		{"b*b", "none", api.Ratio{}, api.ErrLarge},
		{"a/z", "none", api.Ratio{}, api.ErrDivide},
		{"a/b", "none", api.Ratio{}, api.ErrNone},
		{"a/b", "", api.Ratio{}, api.ErrNone},
		{"a/b", "A", api.Ratio{}, api.ErrNone},
		{"1", "none", api.Ratio{}, api.ErrNone},
		// sums and differences
		{"z*b", "z", whole(part), api.OK},
		{"z*b-z", "z", whole(part - 1), api.OK},
		{"z*b+z", "z", api.Ratio{}, api.ErrLarge},
		{"z*b-(-z)", "z", api.Ratio{}, api.ErrLarge},
		// l' r, though the slope is less
		{"b*h*(3/2-h)", "h", whole(part / 2), api.OK},
		{"b*h*(5/2-2*h)", "h", api.Ratio{}, api.ErrLarge},
		{"(5/2-2*h)*(b*h)", "h", api.Ratio{}, api.ErrLarge},
		// (2 l) l', though l l' or 2 l' is too large
		{"(x*s)^2", "x", ratio(1, part), api.OK},
		{"(b*z+h)^2", "z", whole(part), api.OK},
		{"(b*z+a)^2", "z", api.Ratio{}, api.ErrLarge},
		// r r, though the slope is 1 / r or 0
		{"a/31622", "a", ratio(1, 31622), api.OK},
		{"a/31623", "a", api.Ratio{}, api.ErrLarge},
		{"a/m", "a", api.Ratio{}, api.ErrLarge},
		{"a/b", "b", api.Ratio{}, api.ErrLarge},
		{"a/b", "z", api.Ratio{}, api.ErrLarge},
		{"h/h", "h", whole(0), api.OK},
		{"z/(1/20000)", "z", whole(20000), api.OK},
		{"z/(1/40000)", "z", api.Ratio{}, api.ErrLarge},
		{"z/s", "z", api.Ratio{}, api.ErrLarge},
		// the quotient
		{"z*b/(1/2)", "z", api.Ratio{}, api.ErrLarge},
		{"1/2/(z+20000)", "z", ratio(-1, 800000000), api.OK},
		{"1/3/(z+20000)", "z", api.Ratio{}, api.ErrLarge},
	} {
		if s, e := standard.Slope(parsed(t, c.text), q, c.name); s != c.want || e != c.e {
			t.Error(c.text, c.name, s, e)
		}
	}
	// the slope of each node counts, of those that the last one does not use, too
	l := []standard.Node{name("a"), name("b"), node(standard.Over, 0, 1), name("a")}
	if s, e := standard.Slope(l, q, "z"); s != (api.Ratio{}) || e != api.ErrLarge {
		t.Error(s, e)
	}
}

// P5.4: contributions and sums of them that just fit, and just do not.
func TestAccountErrors(t *testing.T) {
	for i, c := range []struct {
		text    string
		spreads []api.Ratio // of a, b and c, which are 1
		want    api.Ratio
		e       api.Errno
	}{
		{"a", []api.Ratio{whole(31622)}, whole(31622 * 31622), api.OK},
		{"a", []api.Ratio{whole(31623)}, api.Ratio{}, api.ErrLarge},
		{"a", []api.Ratio{ratio(1, 31623)}, api.Ratio{}, api.ErrLarge},
		{"a*31623", []api.Ratio{ratio(1, 31623)}, whole(1), api.OK},
		{"a*31623", []api.Ratio{whole(1)}, api.Ratio{}, api.ErrLarge},
		{"a*999999999", []api.Ratio{whole(2)}, api.Ratio{}, api.ErrLarge}, // slope times Spread
		{"a*999999999", []api.Ratio{whole(0)}, whole(0), api.OK},
		{"a+b", []api.Ratio{whole(20000), whole(20000)}, whole(800000000), api.OK},
		{"a+b", []api.Ratio{whole(30000), whole(10000)}, whole(part), api.OK},
		{"a+b+c", []api.Ratio{whole(30000), whole(10000), whole(1)}, api.Ratio{}, api.ErrLarge},
		{"a+b", []api.Ratio{ratio(1, 31607), ratio(1, 2)}, api.Ratio{}, api.ErrLarge},
		{"a+b+c", []api.Ratio{ratio(3, 5), ratio(4, 5), ratio(1, 31607)}, ratio(999002450, 999002449), api.OK},
		{"a+b+c", []api.Ratio{ratio(3, 5), ratio(1, 31607), ratio(4, 5)}, api.Ratio{}, api.ErrLarge}, // the sum of the first two
		{"1/(b-b+a)", []api.Ratio{whole(1), whole(part)}, whole(1), api.OK},                          // a slope of 0
		{"a/1000000", []api.Ratio{whole(1)}, api.Ratio{}, api.ErrLarge},                              // of Slope
		{"a/1000000", []api.Ratio{whole(0)}, api.Ratio{}, api.ErrLarge},                              // of Slope
	} {
		var q []standard.Quantity
		for j, x := range c.spreads {
			q = append(q, quantity(string(rune('a'+j)), whole(1), x))
		}
		b, e := standard.Account(parsed(t, c.text), q)
		if e != c.e || b.Variance != c.want || e != api.OK && (b.Value != api.Ratio{} || len(b.Lines) != 0) {
			t.Error(i, b, e)
		}
	}
}

// P5.3 and P5.4: any expressions of any quantities against slow computations.
func TestBudgets(t *testing.T) {
	r := rand.New(rand.NewSource(7))
	seen := map[api.Errno]int{}
	for range 50000 {
		q := anyQuantities(r, 1+r.Intn(1<<(1+r.Intn(29))))
		l := anyNodes(r, q)
		v, want := slowValues(l, q)
		got, e := standard.Evaluate(l, q)
		if seen[e]++; want != api.OK {
			fails(t, l, q, want)
			continue
		}
		if e != api.OK || !equal(got, v[len(v)-1]) {
			t.Fatal(l, q, got, e, v)
		}
		hasSlopes(t, l, q, v)
		hasBudget(t, l, q, v)
	}
	if seen[api.OK] < 1000 || seen[api.ErrLarge] < 1000 || seen[api.ErrDivide] < 1000 {
		t.Error("the expressions are not as they should be", seen)
	}
}

// hasSlopes checks the slopes for all quantities.
func hasSlopes(t *testing.T, l []standard.Node, q []standard.Quantity, v []*big.Rat) {
	t.Helper()
	for _, x := range q {
		want, expected := slowSlope(l, v, x.Name)
		if s, e := standard.Slope(l, q, x.Name); e != expected || e != api.OK && s != (api.Ratio{}) || e == api.OK && !equal(s, want) {
			t.Fatal(l, q, x.Name, s, e, want, expected)
		}
	}
	if s, e := standard.Slope(l, q, "none"); e != api.ErrNone || s != (api.Ratio{}) {
		t.Fatal(s, e)
	}
}

// hasBudget checks a budget.
func hasBudget(t *testing.T, l []standard.Node, q []standard.Quantity, v []*big.Rat) {
	t.Helper()
	b, e := standard.Account(l, q)
	expected := api.OK
	sum := new(big.Rat)
	lines := 0
	for _, x := range q {
		if !slices.ContainsFunc(l, func(n standard.Node) bool { return n.Op == standard.Name && n.Name == x.Name }) {
			continue
		}
		slope, wrong := slowSlope(l, v, x.Name)
		if expected = wrong; wrong != api.OK {
			break
		}
		contribution := times(times(slope, rat(x.Spread)), times(slope, rat(x.Spread)))
		if sum.Add(sum, contribution); !fits(contribution) || !fits(sum) {
			expected = api.ErrLarge
			break
		}
		if e == api.OK && (b.Lines[lines].Name != x.Name || !equal(b.Lines[lines].Slope, slope) || !equal(b.Lines[lines].Part, contribution)) {
			t.Fatal(l, q, b, slope, contribution)
		}
		lines++
	}
	if e != expected || e != api.OK && (len(b.Lines) > 0 || b.Value != api.Ratio{} || b.Variance != api.Ratio{}) {
		t.Fatal(l, q, b, e, expected)
	}
	if e == api.OK && (!equal(b.Value, v[len(v)-1]) || !equal(b.Variance, sum) || len(b.Lines) != lines) {
		t.Fatal(l, q, b, v, sum)
	}
}
