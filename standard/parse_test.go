package standard_test

import (
	"math/rand"
	"slices"
	"strconv"
	"strings"
	"testing"

	"meridian/api"
	"meridian/standard"
)

// P5.2: the chapter's second example, and others by hand.
func TestParseExamples(t *testing.T) {
	a, b, c := name("a"), name("b"), name("c")
	for text, want := range map[string][]standard.Node{
		"a*b-c^2":      {a, b, node(standard.Times, 0, 1), c, node(standard.Square, 3), node(standard.Minus, 2, 4)},
		"-a^2":         {a, node(standard.Square, 0), node(standard.Negate, 1)},
		"(-a)^2":       {a, node(standard.Negate, 0), node(standard.Square, 1)},
		"a/b/c":        {a, b, node(standard.Over, 0, 1), c, node(standard.Over, 2, 3)},
		"a/(b/c)":      {a, b, c, node(standard.Over, 1, 2), node(standard.Over, 0, 3)},
		"a":            {a},
		"((a))":        {a},
		"0":            {number(0)},
		"10":           {number(10)},
		"999999999":    {number(999999999)},
		"abcdefghijkl": {name("abcdefghijkl")},
		"2^2":          {number(2), node(standard.Square, 0)},
		"a^2^2":        {a, node(standard.Square, 0), node(standard.Square, 1)},
		"--a":          {a, node(standard.Negate, 0), node(standard.Negate, 1)},
		"-a*b":         {a, node(standard.Negate, 0), b, node(standard.Times, 1, 2)},
		"-(a*b)":       {a, b, node(standard.Times, 0, 1), node(standard.Negate, 2)},
		"a*-b^2/c":     {a, b, node(standard.Square, 1), node(standard.Negate, 2), node(standard.Times, 0, 3), c, node(standard.Over, 4, 5)},
		"a--b":         {a, b, node(standard.Negate, 1), node(standard.Minus, 0, 2)},
		"a-b+c":        {a, b, node(standard.Minus, 0, 1), c, node(standard.Plus, 2, 3)},
		"a-(b+c)":      {a, b, c, node(standard.Plus, 1, 2), node(standard.Minus, 0, 3)},
		"a+b*c":        {a, b, c, node(standard.Times, 1, 2), node(standard.Plus, 0, 3)},
		"(a+b)*c":      {a, b, node(standard.Plus, 0, 1), c, node(standard.Times, 2, 3)},
		"a+a":          {a, a, node(standard.Plus, 0, 1)},
	} {
		if l, n, e := standard.Parse(text); !slices.Equal(l, want) || n != len(text) || e != api.OK {
			t.Error(text, l, n, e)
		}
	}
}

// P5.2: the first byte that cannot stand there.
func TestParseForm(t *testing.T) {
	for text, at := range map[string]int{
		"": 0, "+": 0, "+a": 0, "*a": 0, "^2": 0, ")": 0, " ": 0, " a": 0, "A": 0, "_": 0, "\x00": 0, "\xff": 0, "é": 0, ".5": 0, "`": 0, "{": 0,
		"a+": 2, "a-": 2, "a*": 2, "a/": 2, "a^": 2, "-": 1, "--": 2, "(": 1, "(a": 2, "(a+": 3, "((a)": 4, "(-": 2,
		"a++b": 2, "a+*b": 2, "a*/b": 2, "a-)": 2, "(a+)": 3, "()": 1, "a)": 1, "(a))": 3, "a()": 1, "a(b)": 1, "(a)(b)": 3, "(a)b": 3, "(a)1": 3, "-)": 1,
		"a^3": 2, "a^22": 3, "a^2a": 3, "a^20": 3, "a^-2": 2, "a^(2)": 2, "a^+": 2, "a^^2": 2, "a^2(": 3, "a^02": 2,
		"a ": 1, "a b": 1, "a +b": 1, "a\x00": 1, "a\n": 1, "aB": 1, "a1": 1, "a.": 1, "aé": 1, "a\x80": 1, "a,b": 1, "a=b": 1, "a+\x00": 2,
		"3a": 1, "3(": 1, "3 ": 1, "3.5": 1, "00": 1, "01": 1, "007": 1, "0a": 1, "a+00": 3, "(01)": 2, "0000000000": 1, "0123456789": 1,
		"1234567890": 9, "a+12345678901": 11, "(1234567890)": 10, "9999999990": 9,
		"abcdefghijklm": 12, "a*abcdefghijklmn": 14, "-abcdefghijklm": 13, "abcdefghijklM": 12, "abcdefghijkl1": 12,
		"123456789a": 9, "a:b": 1, "3:4": 1, "/a": 0,
	} {
		if l, n, e := standard.Parse(text); n != at || e != api.ErrForm || len(l) != 0 {
			t.Errorf("%q %v %v %v", text, l, n, e)
		}
	}
}

// P5.2: the errors of Parse in their order, and where they are.
func TestParseErrors(t *testing.T) {
	for i, c := range []struct {
		text  string
		at    int
		e     api.Errno
		nodes int
	}{
		{strings.Repeat("(", 249) + "ab" + strings.Repeat(")", 249), 500, api.OK, 1},
		{strings.Repeat("(", 250) + "a" + strings.Repeat(")", 250), 0, api.ErrMany, 0},
		{strings.Repeat("+", 501), 0, api.ErrMany, 0},
		{strings.Repeat("a+", 250) + "a", 0, api.ErrMany, 0},
		{strings.Repeat("(", 500), 500, api.ErrForm, 0},
		{strings.Repeat("-", 500), 500, api.ErrForm, 0},
		{strings.Repeat("a", 500), 12, api.ErrForm, 0},
		{strings.Repeat("-", 499) + "a", 500, api.ErrLarge, 0},
		{strings.Repeat("-", 39) + "a", 40, api.OK, 40},
		{strings.Repeat("-", 40) + "a", 41, api.ErrLarge, 0},
		{"a" + strings.Repeat("^2", 39), 79, api.OK, 40},
		{"a" + strings.Repeat("^2", 40), 81, api.ErrLarge, 0},
		{strings.Repeat("a+", 19) + "a", 39, api.OK, 39},
		{strings.Repeat("a+", 20) + "a", 41, api.ErrLarge, 0},
		{strings.Repeat("a+", 20) + "a)", 41, api.ErrForm, 0},
		{strings.Repeat("a+", 249), 498, api.ErrForm, 0},
	} {
		l, n, e := standard.Parse(c.text)
		if n != c.at || e != c.e || len(l) != c.nodes {
			t.Error(i, n, e, len(l))
		}
	}
}

// slowWrong is the index of the first byte that cannot stand there, -1 if a text
// has the form. It reads byte by byte, and knows just what may follow.
func slowWrong(s string) int {
	state, run, depth := "wanted", 0, 0
	for i := range len(s) {
		c := s[i]
		letter, digit := c >= 'a' && c <= 'z', c >= '0' && c <= '9'
		switch {
		case state == "wanted" && letter:
			state, run = "name", 1
		case state == "wanted" && c == '0':
			state = "zero"
		case state == "wanted" && digit:
			state, run = "number", 1
		case state == "wanted" && c == '(':
			depth++
		case state == "wanted" && c == '-':
		case state == "wanted":
			return i
		case state == "hat" && c == '2':
			state = "full"
		case state == "hat":
			return i
		case state == "name" && letter && run < 12:
			run++
		case state == "number" && digit && run < 9:
			run++
		case c == '+' || c == '-' || c == '*' || c == '/':
			state = "wanted"
		case c == '^':
			state = "hat"
		case c == ')' && depth > 0:
			state = "full"
			depth--
		default:
			return i
		}
	}
	if state == "wanted" || state == "hat" || depth > 0 {
		return len(s)
	}
	return -1
}

// slowTree is the tree of a text that has the form. It divides the text at the
// last sign that stands outside of parentheses and binds least.
func slowTree(s string) *tree {
	for _, signs := range []string{"+-", "*/"} {
		depth := 0
		for i := len(s) - 1; i > 0; i-- {
			depth += strings.Count(")", s[i:i+1]) - strings.Count("(", s[i:i+1])
			if depth == 0 && strings.Contains(signs, s[i:i+1]) && !strings.Contains("+-*/(", s[i-1:i]) {
				op := standard.Plus + standard.Op(strings.Index("+-*/", s[i:i+1]))
				return &tree{standard.Node{Op: op}, slowTree(s[:i]), slowTree(s[i+1:])}
			}
		}
	}
	switch {
	case s[0] == '-':
		return &tree{standard.Node{Op: standard.Negate}, slowTree(s[1:]), nil}
	case strings.HasSuffix(s, "^2"):
		return &tree{standard.Node{Op: standard.Square}, slowTree(s[:len(s)-2]), nil}
	case s[0] == '(':
		return slowTree(s[1 : len(s)-1])
	}
	if n, err := strconv.Atoi(s); err == nil {
		return &tree{node: number(n)}
	}
	return &tree{node: name(s)}
}

// anyText is a text that has the form, with any parentheses, or one with a byte
// that is changed.
func anyText(r *rand.Rand) string {
	s := anyTree(r, 1+r.Intn(1+r.Intn(50))).text()
	keep := r.Intn(4)
	for i := 0; i < len(s); i++ {
		for s[i] == '(' && r.Intn(4) >= keep {
			s = without(s, i)
		}
	}
	if r.Intn(3) == 0 {
		i := r.Intn(len(s))
		c := string("ab05+-*/^2()"[r.Intn(12)])
		return s[:i] + []string{"", c, c + s[i:i+1]}[r.Intn(3)] + s[i+1:]
	}
	return s
}

// P5.2: any text against slow readings of it.
func TestParse(t *testing.T) {
	r := rand.New(rand.NewSource(3))
	seen := map[api.Errno]int{}
	for range 20000 {
		text := anyText(r)
		l, n, e := standard.Parse(text)
		seen[e]++
		at, want := len(text), api.OK
		var nodes []standard.Node
		if wrong := slowWrong(text); len(text) > 500 {
			at, want = 0, api.ErrMany
		} else if wrong >= 0 {
			at, want = wrong, api.ErrForm
		} else if nodes = slowTree(text).nodes(nil); len(nodes) > 40 {
			nodes, want = nil, api.ErrLarge
		}
		if !slices.Equal(l, nodes) || n != at || e != want {
			t.Fatal(text, l, n, e, nodes, at, want)
		}
	}
	if seen[api.OK] < 1000 || seen[api.ErrForm] < 1000 || seen[api.ErrLarge] < 100 {
		t.Error("the texts are not as they should be", seen)
	}
}

// P5.2: parentheses around each part change nothing.
func TestParseParentheses(t *testing.T) {
	r := rand.New(rand.NewSource(4))
	for range 5000 {
		x := anyTree(r, 1+r.Intn(standard.MaxNodes))
		if l := parsed(t, x.text()); !slices.Equal(l, x.nodes(nil)) {
			t.Fatal(x.text(), l)
		}
	}
}
