package standard_test

import (
	"math/big"
	"math/rand"
	"slices"
	"strconv"
	"testing"

	"meridian/api"
	"meridian/standard"
)

// part is the greatest part of a number, next the first one that is too great.
const (
	part = 1000000000
	next = part + 1
)

func ratio(n, d int) api.Ratio { return api.Ratio{N: n, D: d} }

func whole(n int) api.Ratio { return ratio(n, 1) }

// rat is a fraction, in lowest terms or not, as one of big.
func rat(r api.Ratio) *big.Rat { return big.NewRat(int64(r.N), int64(r.D)) }

// equal reports whether r is want, in lowest terms, as numbers of big are.
func equal(r api.Ratio, want *big.Rat) bool {
	return want.Num().Cmp(big.NewInt(int64(r.N))) == 0 && want.Denom().Cmp(big.NewInt(int64(r.D))) == 0
}

// fits reports whether x is a number of the layer.
func fits(x *big.Rat) bool {
	most := big.NewInt(part)
	return x.Num().CmpAbs(most) <= 0 && x.Denom().Cmp(most) <= 0
}

func plus(a, b *big.Rat) *big.Rat  { return new(big.Rat).Add(a, b) }
func minus(a, b *big.Rat) *big.Rat { return new(big.Rat).Sub(a, b) }
func times(a, b *big.Rat) *big.Rat { return new(big.Rat).Mul(a, b) }
func over(a, b *big.Rat) *big.Rat  { return new(big.Rat).Quo(a, b) }

// notNumbers are fractions that are no numbers of the layer.
func notNumbers() []api.Ratio {
	const least, most = -1 << 63, 1<<63 - 1
	return []api.Ratio{
		{}, ratio(1, 0), ratio(0, 2), ratio(2, 4), ratio(-3, 3), ratio(1, -1), ratio(-1, -2), ratio(0, -1),
		ratio(next, 1), ratio(-next, 1), ratio(1, next), ratio(next, part), ratio(part, next),
		ratio(most, 1), ratio(least, 1), ratio(1, most), ratio(1, least), ratio(least, least), ratio(most, most), ratio(least, 3),
	}
}

// edges are numbers of the layer, at its limits and near 0.
func edges() []api.Ratio {
	return []api.Ratio{
		whole(0), whole(1), whole(-1), whole(2), ratio(1, 2), ratio(-1, 2), ratio(1, 3), whole(part), whole(-part), whole(part - 1),
		ratio(1, part), ratio(-1, part), ratio(part, part-1), ratio(-part, part-1), ratio(part-1, part), whole(31622), whole(31623), ratio(1, 31623), ratio(500000000, 3), ratio(3, 500000000),
	}
}

// anyRatio is a number of the layer whose parts are at most size.
func anyRatio(r *rand.Rand, size int) api.Ratio {
	x := big.NewRat(int64(r.Intn(2*size+1)-size), int64(1+r.Intn(size)))
	return ratio(int(x.Num().Int64()), int(x.Denom().Int64()))
}

// parsed are the nodes of a text, which has to be one.
func parsed(t *testing.T, text string) []standard.Node {
	t.Helper()
	l, n, e := standard.Parse(text)
	if e != api.OK || n != len(text) {
		t.Fatal(text, n, e)
	}
	return l
}

func number(n int) standard.Node {
	return standard.Node{Op: standard.Number, Value: whole(n)}
}

func name(s string) standard.Node { return standard.Node{Op: standard.Name, Name: s} }

// node is one of an Op other than Number and Name.
func node(op standard.Op, uses ...int) standard.Node {
	n := standard.Node{Op: op, Left: uses[0]}
	if len(uses) == 2 {
		n.Right = uses[1]
	}
	return n
}

func quantity(name string, value, spread api.Ratio) standard.Quantity {
	return standard.Quantity{Name: name, Value: value, Spread: spread}
}

// isUnary reports whether an Op uses Left only.
func isUnary(op standard.Op) bool { return op == standard.Square || op == standard.Negate }

// anyNodes is an expression whose nodes use any earlier ones, and its names are
// some of those of q.
func anyNodes(r *rand.Rand, q []standard.Quantity) []standard.Node {
	var l []standard.Node
	for i := range 1 + r.Intn(1+r.Intn(standard.MaxNodes)) {
		op := standard.Op(1 + r.Intn(8))
		switch {
		case len(q) > 0 && (i == 0 || op == standard.Name):
			l = append(l, name(q[r.Intn(len(q))].Name))
		case i == 0 || op <= standard.Name:
			l = append(l, standard.Node{Op: standard.Number, Value: anyRatio(r, 9)})
		case isUnary(op):
			l = append(l, node(op, r.Intn(i)))
		default:
			l = append(l, node(op, r.Intn(i), r.Intn(i)))
		}
	}
	return l
}

// anyQuantities are up to 12 quantities with values and spreads of up to size.
func anyQuantities(r *rand.Rand, size int) []standard.Quantity {
	var q []standard.Quantity
	for i := range r.Intn(standard.MaxQuantities + 1) {
		spread := anyRatio(r, size)
		spread.N = max(spread.N, -spread.N)
		q = append(q, quantity("q"+string(rune('a'+i)), anyRatio(r, size), spread))
	}
	return q
}

// tree is an expression whose nodes are used once.
type tree struct {
	node        standard.Node
	left, right *tree
}

// anyTree is a tree of count nodes, as Parse can return it.
func anyTree(r *rand.Rand, count int) *tree {
	switch {
	case count == 1 && r.Intn(2) == 0:
		return &tree{node: number([]int{0, 1, 2, 10, 999999999, r.Intn(part)}[r.Intn(6)])}
	case count == 1:
		return &tree{node: name([]string{"a", "z", "ab", "abcdefghijkl"}[r.Intn(4)])}
	case count == 2 || r.Intn(3) == 0:
		op := []standard.Op{standard.Square, standard.Negate}[r.Intn(2)]
		return &tree{standard.Node{Op: op}, anyTree(r, count-1), nil}
	}
	op := standard.Plus + standard.Op(r.Intn(4))
	left := 1 + r.Intn(count-2)
	return &tree{standard.Node{Op: op}, anyTree(r, left), anyTree(r, count-1-left)}
}

// nodes adds the nodes of a tree to l, in the order of Parse.
func (x *tree) nodes(l []standard.Node) []standard.Node {
	n := x.node
	if x.left != nil {
		l = x.left.nodes(l)
		n.Left = len(l) - 1
	}
	if x.right != nil {
		l = x.right.nodes(l)
		n.Right = len(l) - 1
	}
	return append(l, n)
}

// text is that of a tree, in parentheses.
func (x *tree) text() string {
	switch x.node.Op {
	case standard.Number:
		return "(" + strconv.Itoa(x.node.Value.N) + ")"
	case standard.Name:
		return "(" + x.node.Name + ")"
	case standard.Square:
		return "(" + x.left.text() + "^2)"
	case standard.Negate:
		return "(-" + x.left.text() + ")"
	}
	return "(" + x.left.text() + string("+-*/"[x.node.Op-standard.Plus]) + x.right.text() + ")"
}

// slowValues are the values of all nodes, with no regard to the errors of the
// arguments.
func slowValues(l []standard.Node, q []standard.Quantity) ([]*big.Rat, api.Errno) {
	var v []*big.Rat
	for _, n := range l {
		x := new(big.Rat)
		switch n.Op {
		case standard.Number:
			x = rat(n.Value)
		case standard.Name:
			i := slices.IndexFunc(q, func(x standard.Quantity) bool { return x.Name == n.Name })
			x = rat(q[i].Value)
		case standard.Plus:
			x = plus(v[n.Left], v[n.Right])
		case standard.Minus:
			x = minus(v[n.Left], v[n.Right])
		case standard.Times:
			x = times(v[n.Left], v[n.Right])
		case standard.Over:
			if v[n.Right].Sign() == 0 {
				return nil, api.ErrDivide
			}
			x = over(v[n.Left], v[n.Right])
		case standard.Square:
			x = times(v[n.Left], v[n.Left])
		case standard.Negate:
			x.Neg(v[n.Left])
		}
		if !fits(x) {
			return nil, api.ErrLarge
		}
		v = append(v, x)
	}
	return v, api.OK
}

// slowSlope is the slope of the last node, if no number on the way to it is too
// large.
func slowSlope(l []standard.Node, v []*big.Rat, name string) (*big.Rat, api.Errno) {
	var s []*big.Rat
	for _, n := range l {
		var way []*big.Rat // the parts of the formula, the slope last
		switch n.Op {
		case standard.Number:
			way = append(way, new(big.Rat))
		case standard.Name:
			way = append(way, new(big.Rat))
			if n.Name == name {
				way = append(way, big.NewRat(1, 1))
			}
		case standard.Plus:
			way = append(way, plus(s[n.Left], s[n.Right]))
		case standard.Minus:
			way = append(way, minus(s[n.Left], s[n.Right]))
		case standard.Times:
			a, b := times(s[n.Left], v[n.Right]), times(v[n.Left], s[n.Right])
			way = append(way, a, b, plus(a, b))
		case standard.Over:
			a, b, square := times(s[n.Left], v[n.Right]), times(v[n.Left], s[n.Right]), times(v[n.Right], v[n.Right])
			way = append(way, a, b, minus(a, b), square, over(minus(a, b), square))
		case standard.Square:
			twice := times(big.NewRat(2, 1), v[n.Left])
			way = append(way, twice, times(twice, s[n.Left]))
		case standard.Negate:
			way = append(way, new(big.Rat).Neg(s[n.Left]))
		}
		if slices.ContainsFunc(way, func(x *big.Rat) bool { return !fits(x) }) {
			return nil, api.ErrLarge
		}
		s = append(s, way[len(way)-1])
	}
	return s[len(s)-1], api.OK
}
