package standard_test

import (
	"math"
	"math/rand"
	"slices"
	"strings"
	"testing"

	"meridian/api"
	"meridian/standard"
)

// P5.2: which parts have parentheses, and which have none: all Ops in all places
// of all Ops.
func TestFormatParentheses(t *testing.T) {
	sums, products := "+ -", "* /"
	binary := sums + " " + products
	for outer, where := range map[string][2]string{
		"+": {"", sums}, "-": {"", sums},
		"*": {sums, binary}, "/": {sums, binary},
		"neg": {binary}, "^2": {binary + " neg"},
	} {
		for inner, text := range map[string]string{"0": "7", "x": "x", "+": "p+q", "-": "p-q", "*": "p*q", "/": "p/q", "^2": "p^2", "neg": "-p"} {
			within := func(place string) string {
				if slices.Contains(strings.Fields(place), inner) {
					return "(" + text + ")"
				}
				return text
			}
			switch outer {
			case "neg":
				isText(t, "-"+within(where[0]), "-("+text+")")
			case "^2":
				isText(t, within(where[0])+"^2", "("+text+")^2")
			default:
				isText(t, within(where[0])+outer+"y", "("+text+")"+outer+"y")
				isText(t, "y"+outer+within(where[1]), "y"+outer+"("+text+")")
			}
		}
	}
}

// isText checks that want is how the nodes of a text are formatted.
func isText(t *testing.T, want, text string) {
	t.Helper()
	if s, e := standard.Format(parsed(t, text)); s != want || e != api.OK {
		t.Error(text, s, want, e)
	}
}

// P5.2 and P5.6: what Format writes, Parse reads; without any of its parentheses
// it would read something else.
func TestFormat(t *testing.T) {
	r := rand.New(rand.NewSource(5))
	for range 5000 {
		l := anyTree(r, 1+r.Intn(standard.MaxNodes)).nodes(nil)
		text, e := standard.Format(l)
		if e != api.OK || !slices.Equal(parsed(t, text), l) {
			t.Fatal(l, text, e)
		}
		for i := range text {
			if text[i] != '(' {
				continue
			}
			less := without(text, i)
			if same, _, e := standard.Parse(less); e == api.OK && slices.Equal(same, l) {
				t.Fatal(text, less)
			}
		}
	}
}

// without is a text without the parenthesis at i and that which closes it.
func without(text string, i int) string {
	depth := 0
	for j := i; ; j++ {
		switch text[j] {
		case '(':
			depth++
		case ')':
			depth--
		}
		if depth == 0 {
			return text[:i] + text[i+1:j] + text[j+1:]
		}
	}
}

// P5.2: the longest text that there can be is shorter than MaxLength, so there
// is no ErrLarge.
func TestFormatLongest(t *testing.T) {
	l := []standard.Node{}
	for range 20 {
		l = append(l, name("abcdefghijkl"))
	}
	for i := range 19 {
		l = append(l, node(standard.Times, 18-i, 19+i))
	}
	l = append(l, node(standard.Square, 38))
	text, e := standard.Format(l)
	if len(l) != standard.MaxNodes || e != api.OK || len(text) != 299 || !slices.Equal(parsed(t, text), l) {
		t.Error(text, e)
	}
}

// P5.2: what does not belong to an Op does not matter.
func TestFormatOther(t *testing.T) {
	other := []standard.Node{
		{Op: standard.Name, Name: "a", Left: -1, Right: 99, Value: ratio(2, 2)},
		{Op: standard.Negate, Left: 0, Right: math.MinInt, Name: "A", Value: ratio(next, 1)},
		{Op: standard.Number, Left: math.MaxInt, Right: -5, Name: "much too long a name", Value: whole(7)},
		{Op: standard.Plus, Left: 1, Right: 2, Name: "7", Value: ratio(-1, 2)},
		{Op: standard.Square, Left: 3, Right: 50, Name: "", Value: ratio(0, 0)},
	}
	if s, e := standard.Format(other); s != "(-a+7)^2" || e != api.OK {
		t.Error(s, e)
	}
}

// P5.2: the errors of Format in their order.
func TestFormatErrors(t *testing.T) {
	a, one, half := name("a"), number(1), standard.Node{Op: standard.Number, Value: ratio(1, 2)}
	many := append(slices.Repeat([]standard.Node{a}, 21), slices.Repeat([]standard.Node{node(standard.Plus, 0, 0)}, 20)...)
	for i := range 20 {
		many[21+i] = node(standard.Plus, 19-i, 20+i)
	}
	for i, c := range []struct {
		l []standard.Node
		e api.Errno
	}{
		{nil, api.ErrArg},
		{many, api.ErrArg},
		{[]standard.Node{{}}, api.ErrArg},
		{[]standard.Node{{Op: 9, Name: "a"}}, api.ErrArg},
		{[]standard.Node{{Op: -1, Name: "a"}}, api.ErrArg},
		{[]standard.Node{{Op: math.MinInt}}, api.ErrArg},
		{[]standard.Node{{Op: math.MaxInt}}, api.ErrArg},
		{[]standard.Node{a, {}}, api.ErrArg},
		{[]standard.Node{node(standard.Negate, 0)}, api.ErrArg},
		{[]standard.Node{a, node(standard.Negate, 1)}, api.ErrArg},
		{[]standard.Node{a, node(standard.Square, -1)}, api.ErrArg},
		{[]standard.Node{a, node(standard.Square, math.MinInt)}, api.ErrArg},
		{[]standard.Node{a, node(standard.Square, math.MaxInt)}, api.ErrArg},
		{[]standard.Node{a, a, node(standard.Plus, 0, 2)}, api.ErrArg},
		{[]standard.Node{a, a, node(standard.Over, 2, 1)}, api.ErrArg},
		{[]standard.Node{a, a, node(standard.Times, 0, -1)}, api.ErrArg},
		{[]standard.Node{name("")}, api.ErrArg},
		{[]standard.Node{name("A")}, api.ErrArg},
		{[]standard.Node{name("a1")}, api.ErrArg},
		{[]standard.Node{name("a b")}, api.ErrArg},
		{[]standard.Node{name("é")}, api.ErrArg},
		{[]standard.Node{name("abcdefghijklm")}, api.ErrArg},
		{[]standard.Node{a, a}, api.ErrArg},
		{[]standard.Node{a, a, node(standard.Plus, 0, 0)}, api.ErrArg},
		{[]standard.Node{a, node(standard.Plus, 0, 0)}, api.ErrArg},
		{[]standard.Node{a, a, node(standard.Plus, 1, 0)}, api.ErrArg},
		{[]standard.Node{a, a, node(standard.Negate, 0), node(standard.Plus, 1, 2)}, api.ErrArg},
		{[]standard.Node{a, a, node(standard.Negate, 0), node(standard.Plus, 2, 1)}, api.ErrArg},
		{[]standard.Node{a, a, a, node(standard.Plus, 0, 1), node(standard.Plus, 2, 3)}, api.ErrArg},
		{[]standard.Node{a, a, node(standard.Negate, 1)}, api.ErrArg},
		{[]standard.Node{half}, api.ErrRange},
		{[]standard.Node{number(-1)}, api.ErrRange},
		{[]standard.Node{number(part)}, api.ErrRange},
		{[]standard.Node{number(-part)}, api.ErrRange},
		{[]standard.Node{a, half, node(standard.Plus, 0, 1)}, api.ErrRange},
		{[]standard.Node{half, a}, api.ErrArg},
		{[]standard.Node{half, {}}, api.ErrArg},
		{[]standard.Node{half, a, node(standard.Plus, 1, 0)}, api.ErrArg},
		{[]standard.Node{number(-1), name("A"), node(standard.Plus, 0, 1)}, api.ErrArg},
		{[]standard.Node{number(next), one, node(standard.Plus, 0, 1)}, api.ErrArg},
	} {
		if s, e := standard.Format(c.l); s != "" || e != c.e {
			t.Error(i, s, e)
		}
	}
	for _, wrong := range notNumbers() {
		if s, e := standard.Format([]standard.Node{{Op: standard.Number, Value: wrong}}); s != "" || e != api.ErrArg {
			t.Error(wrong, s, e)
		}
	}
}

// P5.2: nodes with any uses against the order in which they would be parsed.
func TestFormatOrder(t *testing.T) {
	r := rand.New(rand.NewSource(6))
	seen := map[api.Errno]int{}
	for range 50000 {
		l := anyTree(r, 1+r.Intn(7)).nodes(nil)
		n := &l[r.Intn(len(l))]
		switch r.Intn(4) {
		case 0:
			n.Left = r.Intn(len(l))
		case 1:
			n.Right = r.Intn(len(l))
		case 2:
			i, j := r.Intn(len(l)), r.Intn(len(l))
			l[i], l[j] = l[j], l[i]
		}
		want := api.OK
		if !slowParsed(l) {
			want = api.ErrArg
		}
		seen[want]++
		if s, e := standard.Format(l); e != want || (s == "") != (e != api.OK) {
			t.Fatal(l, s, e, want)
		}
	}
	if seen[api.OK] < 1000 || seen[api.ErrArg] < 1000 {
		t.Error("the nodes are not as they should be", seen)
	}
}

// slowParsed reports whether the nodes are those that one meets in their order,
// if one goes from the last one to those that it uses, and to those that these
// use.
func slowParsed(l []standard.Node) bool {
	var met []int
	var visit func(i, before int) bool
	visit = func(i, before int) bool {
		if i < 0 || i >= before || len(met) > len(l) {
			return false
		}
		if l[i].Op >= standard.Plus && !visit(l[i].Left, i) {
			return false
		}
		if l[i].Op >= standard.Plus && !isUnary(l[i].Op) && !visit(l[i].Right, i) {
			return false
		}
		met = append(met, i)
		return true
	}
	if !visit(len(l)-1, len(l)) || len(met) != len(l) {
		return false
	}
	return slices.IsSorted(met) && len(slices.Compact(met)) == len(l)
}
