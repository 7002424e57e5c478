package standard

import (
	"slices"

	"meridian/api"
)

// Line is what a quantity contributes.
type Line struct {
	Name        string
	Slope, Part api.Ratio
}

// Budget is a value with its variance, and where it comes from.
type Budget struct {
	Value, Variance api.Ratio
	Lines           []Line
}

// Evaluate returns the value of an expression.
func Evaluate(l []Node, q []Quantity) (api.Ratio, api.Errno) {
	v, e := evaluate(l, q)
	if e != api.OK {
		return api.Ratio{}, e
	}
	return last(v), api.OK
}

// Slope returns the derivative of an expression.
func Slope(l []Node, q []Quantity, name string) (api.Ratio, api.Errno) {
	v, e := evaluate(l, q)
	if e != api.OK {
		return api.Ratio{}, e
	}
	if index(q, name) < 0 {
		return api.Ratio{}, api.ErrNone
	}
	return attempt(func() api.Ratio { return last(slopes(l, v, name)) })
}

// Account returns the budget of an expression.
func Account(l []Node, q []Quantity) (Budget, api.Errno) {
	v, e := evaluate(l, q)
	if e != api.OK {
		return Budget{}, e
	}
	return attempt(func() Budget { return account(l, q, v) })
}

// evaluate is Evaluate for all nodes.
func evaluate(l []Node, q []Quantity) ([]api.Ratio, api.Errno) {
	if e := checkQuantities(q); e != api.OK {
		return nil, e
	}
	if !isExpression(l, func(name string) bool { return index(q, name) >= 0 }) {
		return nil, api.ErrArg
	}
	return attempt(func() []api.Ratio { return values(l, q) })
}

func checkQuantities(q []Quantity) api.Errno {
	if len(q) > MaxQuantities {
		return api.ErrMany
	}
	for _, x := range q {
		if !isName(x.Name) || !isNumber(x.Value) || !isNumber(x.Spread) || x.Spread.N < 0 {
			return api.ErrRange
		}
	}
	for i, x := range q {
		if index(q[:i], x.Name) >= 0 {
			return api.ErrTwice
		}
	}
	return api.OK
}

// index is that of the quantity with a name, -1 if there is none.
func index(q []Quantity, name string) int {
	return slices.IndexFunc(q, func(x Quantity) bool { return x.Name == name })
}

// values are those of all nodes.
func values(l []Node, q []Quantity) []api.Ratio {
	return results(l, rules[api.Ratio]{
		Number: func(n Node, _ []api.Ratio) api.Ratio { return n.Value },
		Name:   func(n Node, _ []api.Ratio) api.Ratio { return q[index(q, n.Name)].Value },
		Plus:   func(n Node, v []api.Ratio) api.Ratio { return add(v[n.Left], v[n.Right]) },
		Minus:  func(n Node, v []api.Ratio) api.Ratio { return subtract(v[n.Left], v[n.Right]) },
		Times:  func(n Node, v []api.Ratio) api.Ratio { return multiply(v[n.Left], v[n.Right]) },
		Over:   func(n Node, v []api.Ratio) api.Ratio { return divide(v[n.Left], v[n.Right]) },
		Square: func(n Node, v []api.Ratio) api.Ratio { return square(v[n.Left]) },
		Negate: func(n Node, v []api.Ratio) api.Ratio { return negate(v[n.Left]) },
	})
}

// slopes are those of all nodes, which have the values v, for a quantity.
func slopes(l []Node, v []api.Ratio, name string) []api.Ratio {
	return results(l, rules[api.Ratio]{
		Number: func(Node, []api.Ratio) api.Ratio { return whole(0) },
		Name: func(n Node, _ []api.Ratio) api.Ratio {
			if n.Name == name {
				return whole(1)
			}
			return whole(0)
		},
		Plus:  func(n Node, s []api.Ratio) api.Ratio { return add(s[n.Left], s[n.Right]) },
		Minus: func(n Node, s []api.Ratio) api.Ratio { return subtract(s[n.Left], s[n.Right]) },
		Times: func(n Node, s []api.Ratio) api.Ratio {
			return add(multiply(s[n.Left], v[n.Right]), multiply(v[n.Left], s[n.Right]))
		},
		Over: func(n Node, s []api.Ratio) api.Ratio {
			top := subtract(multiply(s[n.Left], v[n.Right]), multiply(v[n.Left], s[n.Right]))
			return divide(top, square(v[n.Right]))
		},
		Square: func(n Node, s []api.Ratio) api.Ratio {
			return multiply(multiply(whole(2), v[n.Left]), s[n.Left])
		},
		Negate: func(n Node, s []api.Ratio) api.Ratio { return negate(s[n.Left]) },
	})
}

// account is the budget of an expression whose nodes have the values v.
func account(l []Node, q []Quantity, v []api.Ratio) Budget {
	named := map[string]bool{}
	for n := range withOp(l, Name) {
		named[n.Name] = true
	}
	b := Budget{Value: last(v), Variance: whole(0)}
	for _, x := range q {
		if !named[x.Name] {
			continue
		}
		slope := last(slopes(l, v, x.Name))
		part := square(multiply(slope, x.Spread))
		b.Lines = append(b.Lines, Line{Name: x.Name, Slope: slope, Part: part})
		b.Variance = add(b.Variance, part)
	}
	return b
}
