package world_test

import (
	"fmt"
	"strings"
)

// seed tells numbers without a pattern, the same ones in each run.
type seed uint64

func (s *seed) next() uint64 {
	*s = *s*6364136223846793005 + 1442695040888963407
	x := uint64(*s)
	return (x ^ x>>29) >> 11
}

func (s *seed) below(n int) int { return int(s.next() % uint64(n)) }

func (s *seed) oneIn(n int) bool { return s.below(n) == 0 }

// one of some words.
func (s *seed) one(words ...string) string { return words[s.below(len(words))] }

// A function's locals, whatever it takes: its parameters come first.
const (
	first  = iota // a node
	second        // a node
	maybe         // a node or nothing
	list          // an array of three references or more, to nodes or nothing
	count         // of a loop
	inner         // of a loop in it
	thread        // a thread's number
	number
)

// writer writes programs whose threads share nodes. An expression may go deep, so that there are references on the stack while objects are made.
type writer struct {
	*seed
	text   strings.Builder
	labels int
	risky  bool // it seldom does what is a trap, or may be one
	waits  bool // a thread may wait for ever
	polls  int  // how many there are between two statements at most
}

// program: the text of one that begins so many threads at most, or seldom one too many.
func (s *seed) program(threads int) string {
	w := &writer{seed: s, risky: s.oneIn(3), waits: s.oneIn(4), polls: s.below(4)}
	left := threads - 1
	if s.oneIn(15) {
		left++
	}
	// Of some threads that main begins, each begins another one, which may do so as well.
	var begins []string
	for left > 0 {
		n := min(left, 1+s.below(3))
		left -= n
		begins = append(begins, fmt.Sprint("work", n))
	}
	w.line("class leaf n:int\nclass node a:ref n:int b:ref\nclass pair a:ref b:ref")
	w.line("func main -> int\nlocals ref ref ref ref int int int int\npoll\nnew node\nstore 0\nnew node\nstore 1\nnull\nstore 2")
	w.body(begins)
	for n := range 4 {
		w.line("func work%d ref ref ref -> int\nlocals ref int int int int\npoll", n)
		if n < 2 {
			w.body(nil)
		} else {
			w.body([]string{fmt.Sprint("work", n-1)})
		}
	}
	w.helper()
	return w.text.String()
}

func (w *writer) line(form string, values ...any) { fmt.Fprintf(&w.text, form+"\n", values...) }

func (w *writer) label() string {
	w.labels++
	return fmt.Sprint("L", w.labels)
}

// body is that of a function whose first three locals are set: it begins threads, goes through a loop, and ends.
func (w *writer) body(begins []string) {
	w.array(0)
	w.line("store %d", list)
	w.line("const 0\nstore %d\nconst -1\nstore %d", number, thread)
	for range w.below(3) {
		w.chain()
	}
	w.line(w.one("poll", "collect"))
	for _, name := range begins {
		if w.oneIn(2) {
			w.loop(count, 1+w.below(5), func() { w.some(1+w.below(4), 0) })
		}
		w.node(1)
		w.node(0)
		w.any(1)
		w.line("spawn %s\nstore %d", name, thread)
		w.some(w.below(4), 0)
	}
	eager := w.one("poll", "collect")
	w.loop(count, 2+w.below(20), func() {
		w.line("%s", eager)
		w.some(2+w.below(6), 1)
	})
	if len(begins) > 0 && !w.oneIn(3) {
		w.line("load %d\njoin\nstore %d", thread, number)
	}
	if w.waits && w.oneIn(2) {
		// It may wait for itself, or for one that waits for it.
		w.line("const %d\njoin\nstore %d", w.below(3), number)
	}
	w.some(w.below(3), 0)
	w.num(1)
	w.line("return\nend")
}

// chain: nodes in a row, held by a global and a local.
func (w *writer) chain() {
	field := w.one("a", "b")
	w.loop(inner, 2+w.below(9), func() { w.line("new node\ndup\nload %d\nput node %s\nstore %d", first, field, first) })
	w.line("load %d\nsetglobal %d", first, w.below(4))
}

func (w *writer) loop(local, times int, body func()) {
	begin := w.label()
	w.line("const %d\nstore %d\n%s:\npoll", times, local, begin)
	body()
	w.line("load %d\nconst 1\nsub\ndup\nstore %d\njumpif %s", local, local, begin)
}

// some statements, with polls between them, so that a cycle may go far while a thread does little.
func (w *writer) some(n, nest int) {
	for range n {
		for range w.below(w.polls + 1) {
			w.line("poll")
		}
		w.statement(nest)
	}
}

func (w *writer) statement(nest int) {
	switch w.below(24) {
	case 0, 1:
		w.node(2)
		w.line("store %d", w.below(2))
	case 2:
		w.any(2)
		w.line("store %d", maybe)
	case 3:
		w.array(2)
		w.line("store %d", list)
	case 4:
		w.node(1)
		w.any(2)
		w.line("put node %s", w.one("a", "b"))
	case 5:
		w.array(1)
		w.line("const %d", w.below(3))
		w.any(2)
		w.line("setref")
	case 6:
		w.any(2)
		w.line("setglobal %d", w.below(4))
	case 7:
		w.array(2)
		w.line("setglobal %d", 4+w.below(2))
	case 8, 9, 10:
		w.give()
	case 11, 12, 13, 14, 15:
		w.take()
	case 16, 17:
		w.line(w.one("poll", "collect", "collect"))
	case 18:
		w.num(2)
		w.line("%s", w.one("out", "drop", fmt.Sprint("store ", number)))
	case 19:
		if w.below(3) > 0 {
			w.line("const 3\nnewints\ndrop")
			return
		}
		w.line("const %d\n%s\n%s", w.size(), w.one("newints", "newrefs"), w.one("drop", "setglobal 6", "setglobal 7"))
	case 20:
		w.line(w.one("new leaf", "new pair", "null") + "\n" + w.one("drop", "setglobal 6", "setglobal 7"))
	case 21:
		w.branch(nest)
	case 22:
		if nest > 0 {
			w.loop(inner, 2+w.below(3), func() { w.some(1+w.below(3), 0) })
			return
		}
		// A row of nodes is taken apart from its begin on.
		field := w.one("a", "b")
		w.loop(inner, 2+w.below(8), func() {
			w.line("load 0\nload 0\nget node %s", field)
			w.keep(first)
			w.line("null\nput node %s", field)
		})
	case 23:
		w.risk()
	}
}

// give: a new node, which holds another one, comes where nothing else refers to it.
func (w *writer) give() {
	fresh := "new node\ndup\nnew node\nput node " + w.one("a", "b")
	switch w.below(3) {
	case 0:
		w.line("%s\nsetglobal %d", fresh, w.below(4))
	case 1:
		w.line("load %d\n%s\nput node %s", w.below(2), fresh, w.one("a", "b"))
	case 2:
		w.line("load %d\nconst %d\n%s\nsetref", list, w.below(3), fresh)
	}
}

// size: mostly a small one.
func (w *writer) size() int {
	if w.oneIn(4) {
		return []int{31, 32, 60, 63, 64, 100, 127, 128, 200, 255}[w.below(10)]
	}
	return w.below(31)
}

// branch: one of two ways.
func (w *writer) branch(nest int) {
	other, end := w.label(), w.label()
	w.num(1)
	w.line("jumpif %s", other)
	w.some(1+w.below(2), nest)
	w.line("jump %s\n%s:", end, other)
	w.some(1+w.below(2), nest)
	w.line("%s:", end)
}

// take: a reference is taken out of where it stands, so that nothing but a local holds it.
func (w *writer) take() {
	to := w.below(3)
	switch w.below(5) {
	case 0, 1:
		g := w.below(4)
		w.line("global %d", g)
		w.keep(to)
		w.line("null\nsetglobal %d", g)
	case 2:
		n, field := w.below(2), w.one("a", "b")
		w.line("load %d\nload %d\nget node %s", n, n, field)
		w.keep(to)
		w.line("null\nput node %s", field)
	case 3:
		n := w.below(3)
		w.line("load %d\nconst %d\nrefat", list, n)
		w.keep(to)
		w.line("load %d\nconst %d\nnull\nsetref", list, n)
	case 4:
		// Of two threads that do so, one alone takes it.
		n, field := w.below(2), w.one("a", "b")
		w.line("load %d\nload %d\nget node %s\nstore %d\nload %d\nnull\ncas node %s\nstore %d", n, n, field, maybe, maybe, field, number)
	}
}

// keep stores what is on the stack; where a node must be, it may not be nothing.
func (w *writer) keep(local int) {
	if local == maybe {
		w.line("store %d", maybe)
		return
	}
	none, end := w.label(), w.label()
	w.line("dup\nisnull\njumpif %s\nstore %d\njump %s\n%s:\ndrop\n%s:", none, local, end, none, end)
}

// risk: what may be a trap.
func (w *writer) risk() {
	if !w.risky || !w.oneIn(4) {
		return
	}
	w.line("%s", w.one("load 2\nget node n\ndrop", "const -1\nnewints\ndrop", "const 256\nnewrefs\ndrop", "load 3\nconst 70\nrefat\ndrop", "load 0\nget pair a\ndrop",
		"load 7\nconst 0\ndiv\ndrop", "load 7\njoin\ndrop", "load 0\nload 1\nnull\nspawn work1\ndrop", "load 0\nlen\ndrop", "load 0\nload 0\nload 0\nspawn work0\njoin\ndrop"))
}

// node puts a reference to a node.
func (w *writer) node(deep int) {
	switch n := w.below(8); {
	case n < 3 || deep == 0 && n < 6:
		w.line("load %d", w.below(2))
	case n < 5 || deep == 0:
		w.line("new node")
	case n == 5:
		w.node(deep - 1)
		w.line("call help")
	default:
		// What may be nothing, or else a new one.
		none, end := w.label(), w.label()
		w.any(deep - 1)
		w.line("dup\nisnull\njumpif %s\njump %s\n%s:\ndrop\nnew node\n%s:", none, end, none, end)
	}
}

// any puts a reference to a node, or to nothing.
func (w *writer) any(deep int) {
	if deep == 0 {
		w.line(w.one("null", "load 0", "load 1", "load 2", "load 2", "global 0", "global 1", "global 2", "global 3"))
		return
	}
	switch w.below(5) {
	case 0, 1:
		w.node(deep)
	case 2:
		w.node(deep - 1)
		w.line("get node %s", w.one("a", "b"))
	case 3:
		w.array(deep - 1)
		w.line("const %d\nrefat", w.below(3))
	case 4:
		w.any(deep - 1)
	}
}

// array puts a reference to an array.
func (w *writer) array(deep int) {
	if deep > 0 && w.below(3) > 0 {
		w.line("load %d", list)
		return
	}
	if deep > 1 && w.oneIn(2) {
		none, end := w.label(), w.label()
		w.line("global %d\ndup\nisnull\njumpif %s\njump %s\n%s:\ndrop\nconst 3\nnewrefs\n%s:", 4+w.below(2), none, end, none, end)
		return
	}
	w.line("const %d\nnewrefs", 3+w.below(5))
}

// num puts a number.
func (w *writer) num(deep int) {
	if deep == 0 {
		w.line(w.one("load 7", "load 6", "const 1", "const 0", "const 5"))
		return
	}
	switch w.below(7) {
	case 0:
		w.num(deep - 1)
		w.num(deep - 1)
		w.line(w.one("add", "sub", "less", "eq", "mul"))
	case 1:
		w.node(deep - 1)
		w.line("get node n")
	case 2:
		w.any(deep)
		w.line("isnull")
	case 3:
		w.any(deep - 1)
		w.any(deep - 1)
		w.line("same")
	case 4:
		w.node(deep - 1)
		w.any(deep - 1)
		w.any(deep - 1)
		w.line("cas node %s", w.one("a", "b"))
	case 5:
		w.array(deep - 1)
		w.line("len")
	case 6:
		w.node(deep - 1)
		w.line("dup\nget node n\nconst 1\nadd\nswap\ndup\nstore 0\nswap\ndup\nstore 7\nput node n\nload 7")
	}
}

// helper is called: what it is given becomes the end of a new row, whose begin it returns.
func (w *writer) helper() {
	w.line("func help ref -> ref\nlocals ref int\npoll\nload 0\nstore 1\nconst %d\nstore 2", 1+w.below(4))
	w.line("more:\npoll\nnew node\ndup\nload 1\nput node a\nstore 1\nload 2\nconst 1\nsub\ndup\nstore 2\njumpif more\nload 1\nreturn\nend")
}
