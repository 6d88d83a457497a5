package collect_test

import (
	"fmt"
	"strings"
)

// seed tells numbers without a pattern, the same ones in each run.
type seed uint64

func (s *seed) next() uint64 {
	x := uint64(*s)
	x ^= x << 13
	x ^= x >> 7
	x ^= x << 17
	*s = seed(x)
	return x >> 8
}

func (s *seed) below(n int) int { return int(s.next() % uint64(n)) }

// writer writes programs whose threads move objects to and fro. What it writes seldom traps, but for lack of memory.
type writer struct {
	*seed
	text   strings.Builder
	labels int
	left   int // how many threads may still be begun
}

// Where a function's locals stand.
const (
	node0 = iota // three nodes, which are never null
	node1
	node2
	array // of references, never null, with three places at least
	count // of a loop
	inner // of a loop within it
	other // a thread's number
	number
)

// program: main, the functions of its threads, and one that is called. There are so many threads at most, but for a few programs that begin too many.
func (s *seed) program(threads int) string {
	w := &writer{seed: s, left: threads - 1}
	if s.below(20) == 0 {
		w.left++
	}
	w.line("class node a:ref b:ref n:int")
	w.line("class leaf n:int")
	// Of each two threads that main begins, one of w1 begins another one.
	var begins []string
	for w.left > 0 {
		w.left--
		kind := 0
		if w.left > 0 && s.below(3) > 0 {
			w.left--
			kind = 1
		}
		begins = append(begins, fmt.Sprint("w", kind))
	}
	w.line("func main\nlocals ref ref ref ref int int int int\npoll")
	w.fresh(node0)
	w.body(begins)
	w.line("return\nend")
	for i, begins := range [][]string{nil, {"w0"}} {
		w.line("func w%d ref -> int\nlocals ref ref ref int int int int\npoll", i)
		w.body(begins)
		w.line("load %d\nreturn\nend", number)
	}
	w.helper()
	return w.text.String()
}

func (w *writer) line(form string, values ...any) {
	fmt.Fprintf(&w.text, form+"\n", values...)
}

// label: a new one.
func (w *writer) label() string {
	w.labels++
	return fmt.Sprint("L", w.labels)
}

func (w *writer) fresh(local int) {
	w.line("new node\nstore %d", local)
}

// body: locals are set, threads are begun, and a loop runs.
func (w *writer) body(begins []string) {
	w.fresh(node1)
	w.fresh(node2)
	w.array()
	w.line("const 0\nstore %d", other)
	w.line("const 0\nstore %d", number)
	for range w.below(4) {
		w.list()
	}
	for _, name := range begins {
		w.line("load %d\nspawn %s\nstore %d", w.node(), name, other)
		w.some(w.below(3), 0)
	}
	w.loop(count, 2+w.below(12), func() { w.some(3+w.below(6), 1) })
	w.some(3, 0)
	if len(begins) > 0 && w.below(3) > 0 || w.below(15) == 0 {
		w.join()
	}
}

// list: some nodes, each of which refers to the one before it by one field or the other, in a global and a local.
func (w *writer) list() {
	n, f := w.node(), w.field()
	w.loop(inner, 2+w.below(8), func() { w.line("new node\ndup\nload %d\nput node %s\nstore %d", n, f, n) })
	w.line("load %d\nsetglobal %d", n, w.below(5))
}

// join waits for the last thread that was begun here; for itself, a thread would wait forever.
func (w *writer) join() {
	w.line("load %d\njoin\nout", other)
}

// loop: what is done again and again.
func (w *writer) loop(local, times int, body func()) {
	begin := w.label()
	w.line("const %d\nstore %d", times, local)
	w.line("%s:\npoll", begin)
	body()
	w.line("load %d\nconst 1\nsub\ndup\nstore %d\njumpif %s", local, local, begin)
}

// some statements.
func (w *writer) some(n, nest int) {
	for range n {
		w.statement(nest)
	}
}

func (w *writer) node() int { return node0 + w.below(3) }

func (w *writer) field() string { return []string{"a", "b"}[w.below(2)] }

// array makes a new one.
func (w *writer) array() {
	n := 3 + w.below(4)
	if w.below(12) == 0 {
		n = []int{31, 40, 64, 130}[w.below(4)]
	}
	w.line("const %d\nnewrefs\nstore %d", n, array)
}

// unlessNull stores the reference on the stack, if it refers to something.
func (w *writer) unlessNull(local int) {
	drop, end := w.label(), w.label()
	w.line("dup\nisnull\njumpif %s\nstore %d\njump %s\n%s:\ndrop\n%s:", drop, local, end, drop, end)
}

// any puts a node, or seldom nothing.
func (w *writer) any() {
	if w.below(5) == 0 {
		w.line("null")
		return
	}
	w.line("load %d", w.node())
}

func (w *writer) statement(nest int) {
	switch w.below(26) {
	case 0:
		w.fresh(w.node())
	case 21, 22, 23: // what a field refers to is taken out of it
		n, f, to := w.node(), w.field(), w.node()
		w.line("load %d\nload %d\nget node %s", n, n, f)
		w.unlessNull(to)
		w.line("null\nput node %s", f)
	case 24, 25: // what a global refers to is taken out of it
		g := w.below(5)
		w.line("global %d", g)
		w.unlessNull(w.node())
		w.line("null\nsetglobal %d", g)
	case 1, 2: // a longer list
		n := w.node()
		w.line("new node\ndup\nload %d\nput node %s\nstore %d", n, w.field(), n)
	case 3, 4:
		w.line("load %d", w.node())
		w.any()
		w.line("put node %s", w.field())
	case 5, 6:
		w.line("load %d\nget node %s", w.node(), w.field())
		w.unlessNull(w.node())
	case 7, 8:
		w.any()
		w.line("setglobal %d", w.below(5))
	case 9, 10:
		w.line("global %d", w.below(5))
		w.unlessNull(w.node())
	case 11:
		n, f := w.node(), w.field()
		w.line("load %d\nload %d\nget node %s", n, n, f)
		w.any()
		w.line("cas node %s\nstore %d", f, number)
	case 12:
		w.line("load %d\nconst %d", array, w.below(3))
		w.any()
		w.line("setref")
	case 13:
		w.line("load %d\nconst %d\nrefat", array, w.below(3))
		w.unlessNull(w.node())
	case 14:
		w.arrays()
	case 15:
		w.numbers()
	case 16:
		w.line("%s", []string{"poll", "collect", "poll"}[w.below(3)])
	case 17:
		w.line("load %d\ncall help\nstore %d", w.node(), number)
	case 18:
		w.line("const %d\nnewints\ndrop", []int{0, 1, 3, 9, 20, 31, 50, 70}[w.below(8)])
	case 19:
		w.line("new leaf\ndrop")
	case 20:
		if nest > 0 {
			w.loop(inner, 2+w.below(3), func() { w.some(1+w.below(3), 0) })
		}
	}
}

// arrays: the array is a new one, or goes to or comes from a global.
func (w *writer) arrays() {
	switch w.below(3) {
	case 0:
		w.array()
	case 1:
		w.line("load %d\nsetglobal %d", array, 5+w.below(3))
	case 2:
		w.line("global %d", 5+w.below(3))
		w.unlessNull(array)
	}
}

// numbers go into nodes and come out of them.
func (w *writer) numbers() {
	switch w.below(3) {
	case 0:
		w.line("load %d\nconst %d\nput node n", w.node(), w.below(100))
	case 1:
		w.line("load %d\nget node n\nstore %d", w.node(), number)
	case 2:
		w.line("load %d\nget node n\nout", w.node())
	}
}

// helper is called: it makes a list that begins with what it is given, and counts it.
func (w *writer) helper() {
	w.line("func help ref -> int")
	w.line("locals ref int int")
	w.line("poll\nload 0\nstore 1\nconst %d\nstore 2\nconst 0\nstore 3", 1+w.below(5))
	w.line("more:\npoll\nnew node\ndup\nload 1\nput node a\nstore 1")
	w.line("load 2\nconst 1\nsub\ndup\nstore 2\njumpif more")
	w.line("count:\npoll\nload 1\nisnull\njumpif done\nload 1\nget node a\nstore 1\nload 3\nconst 1\nadd\ndup\nstore 3\nconst 9\nless\njumpif count")
	w.line("done:\nload 3\nreturn\nend")
}
