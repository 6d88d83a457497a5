package console

import (
	"slices"
	"strconv"
	"strings"

	"windrow/api"
	"windrow/world"
)

// shape is what the line of an order looks like.
type shape struct {
	name    string
	kind    int
	numbers int // how many it has
}

// many: of a pick there may be any number of them.
const many = -1

// shapes are those of all orders.
var shapes = [...]shape{
	{"program", Program, 0},
	{"start", Start, 4},
	{"pick", Pick, many},
	{"turns", Turns, 1},
	{"finish", Finish, 1},
	{"out", Out, 0},
	{"threads", Threads, 0},
	{"heap", Heap, 0},
	{"globals", Globals, 0},
	{"state", State, 0},
	{"events", Events, 1},
	{"again", Again, 0},
	{"ask", Ask, 2},
}

const (
	wordCollector = "c" // in place of a number, of a pick
	lineEnd       = "." // behind a program
	greatest      = 65536
)

// Parse: the orders of a script; else the line that is wrong, with those ahead of it.
func Parse(text string) ([]Order, int, api.Errno) {
	if len(text) > api.MaxText {
		return nil, 0, api.ErrBig
	}
	var orders []Order
	lines := strings.Split(text, "\n")
	for next := 0; next < len(lines); {
		words := separate(lines[next])
		next++
		if len(words) == 0 || strings.HasPrefix(words[0], "#") {
			continue
		}
		o, e := read(words)
		if e != api.OK {
			return orders, next, e
		}
		o.Line = next
		if o.Kind == Program {
			length := slices.Index(lines[next:], lineEnd)
			if length < 0 {
				return orders, len(lines) + 1, api.ErrEnds
			}
			o.Text = strings.Join(lines[next:next+length], "\n")
			next += length + 1
		}
		orders = append(orders, o)
	}
	return orders, 0, api.OK
}

// separate: the words of a line.
func separate(line string) []string {
	return strings.FieldsFunc(line, func(r rune) bool { return r == ' ' || r == '\t' })
}

// find: the shape of the order with a name; false: there is no such order.
func find(name string) (shape, bool) {
	for _, s := range shapes {
		if s.name == name {
			return s, true
		}
	}
	return shape{}, false
}

// read: the order whose line has these words; else why there is none.
func read(words []string) (Order, api.Errno) {
	s, ok := find(words[0])
	if !ok {
		return Order{}, api.ErrOp
	}
	rest := words[1:]
	if s.numbers != many && len(rest) != s.numbers {
		return Order{}, api.ErrSyntax
	}
	o := Order{Kind: s.kind}
	for _, word := range rest {
		n, ok := number(word)
		if s.kind == Pick && word == wordCollector {
			n, ok = world.Gatherer, true
		}
		if !ok {
			return Order{}, api.ErrSyntax
		}
		o.Nums = append(o.Nums, n)
	}
	return o, api.OK
}

// number: the one that a word stands for; false: it stands for none.
func number(word string) (int, bool) {
	n, err := strconv.Atoi(word)
	// Each number is written in one way, without a sign and without noughts in front.
	if err != nil || n < 0 || n > greatest || strconv.Itoa(n) != word {
		return 0, false
	}
	return n, true
}
