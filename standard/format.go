package standard

import (
	"slices"
	"strconv"

	"meridian/api"
	"meridian/number"
)

// How firmly the parts of a text hold together: what stands where a firmer part
// must stand has parentheses.
const (
	sumLevel = iota
	productLevel
	factorLevel
	baseLevel
)

// Format returns the text of an expression. It has no ErrLarge to return: the
// longest text that MaxNodes nodes can have is one of 299 bytes.
func Format(l []Node) (string, api.Errno) {
	if !isExpression(l, isName) || !isParsed(l) {
		return "", api.ErrArg
	}
	for n := range withOp(l, Number) {
		if n.Value.D != 1 || !number.Within(n.Value.N, 0, MaxPart-1) {
			return "", api.ErrRange
		}
	}
	return last(texts(l)), api.OK
}

// isParsed reports whether the nodes of an expression are in the order of Parse,
// and each but the last one is used once: a node uses the last ones of those
// that are not used yet.
func isParsed(l []Node) bool {
	var open []int
	for i, n := range l {
		uses := n.uses()
		from := len(open) - len(uses)
		if from < 0 || !slices.Equal(open[from:], uses) {
			return false
		}
		open = append(open[:from], i)
	}
	return len(open) == 1
}

// texts are those of all nodes.
func texts(l []Node) []string {
	at := func(least, k int, done []string) string {
		if l[k].Op.level() < least {
			return "(" + done[k] + ")"
		}
		return done[k]
	}
	signed := func(left int, sign string, right int) func(Node, []string) string {
		return func(n Node, done []string) string {
			return at(left, n.Left, done) + sign + at(right, n.Right, done)
		}
	}
	return results(l, rules[string]{
		Number: func(n Node, _ []string) string { return strconv.Itoa(n.Value.N) },
		Name:   func(n Node, _ []string) string { return n.Name },
		Plus:   signed(sumLevel, "+", productLevel),
		Minus:  signed(sumLevel, "-", productLevel),
		Times:  signed(productLevel, "*", factorLevel),
		Over:   signed(productLevel, "/", factorLevel),
		Square: func(n Node, done []string) string { return at(baseLevel, n.Left, done) + "^2" },
		Negate: func(n Node, done []string) string { return "-" + at(factorLevel, n.Left, done) },
	})
}

func (o Op) level() int {
	switch o {
	case Plus, Minus:
		return sumLevel
	case Times, Over:
		return productLevel
	case Negate:
		return factorLevel
	}
	return baseLevel
}
