package standard

import (
	"strconv"

	"meridian/api"
)

// reader reads a text, of which it has read all before the index at. What
// cannot stand there is a panic.
type reader struct {
	text  string
	at    int
	nodes []Node
}

// Parse returns the nodes of a text.
func Parse(text string) ([]Node, int, api.Errno) {
	if len(text) > MaxLength {
		return nil, 0, api.ErrMany
	}
	r := &reader{text: text}
	l, e := attempt(r.all)
	return l, r.at, e
}

func (r *reader) all() []Node {
	r.sum()
	if r.at < len(r.text) {
		panic(api.ErrForm)
	}
	if len(r.nodes) > MaxNodes {
		panic(api.ErrLarge)
	}
	return r.nodes
}

// Each of these reads a part, and returns the index of its node.

func (r *reader) sum() int {
	return r.chain(r.product, map[byte]Op{'+': Plus, '-': Minus})
}

func (r *reader) product() int {
	return r.chain(r.factor, map[byte]Op{'*': Times, '/': Over})
}

// chain reads parts with signs between them, from the left.
func (r *reader) chain(part func() int, signs map[byte]Op) int {
	left := part()
	for {
		op, is := signs[r.next()]
		if !is {
			return left
		}
		r.at++
		right := part()
		left = r.add(Node{Op: op, Left: left, Right: right})
	}
}

func (r *reader) factor() int {
	if r.skips('-') {
		return r.add(Node{Op: Negate, Left: r.factor()})
	}
	base := r.base()
	for r.skips('^') {
		r.needs('2')
		base = r.add(Node{Op: Square, Left: base})
	}
	return base
}

func (r *reader) base() int {
	switch c := r.next(); {
	case isDigit(c):
		return r.digits()
	case isLetter(c):
		return r.add(Node{Op: Name, Name: r.run(isLetter, maxLetters)})
	default:
		r.needs('(')
		inner := r.sum()
		r.needs(')')
		return inner
	}
}

func (r *reader) digits() int {
	most := maxDigits
	if r.next() == '0' {
		most = 1
	}
	n, _ := strconv.Atoi(r.run(isDigit, most))
	return r.add(Node{Op: Number, Value: whole(n)})
}

// run reads all bytes of a kind that stand here; there may be no more than most.
func (r *reader) run(is func(byte) bool, most int) string {
	from := r.at
	for is(r.next()) {
		if r.at-from == most {
			panic(api.ErrForm)
		}
		r.at++
	}
	return r.text[from:r.at]
}

func (r *reader) add(n Node) int {
	r.nodes = append(r.nodes, n)
	return len(r.nodes) - 1
}

// next is the byte that stands here; at the end of the text it is 0, which
// stands nowhere in a text.
func (r *reader) next() byte {
	if r.at == len(r.text) {
		return 0
	}
	return r.text[r.at]
}

// skips reads the next byte if it is c.
func (r *reader) skips(c byte) bool {
	if r.next() != c {
		return false
	}
	r.at++
	return true
}

func (r *reader) needs(c byte) {
	if !r.skips(c) {
		panic(api.ErrForm)
	}
}
