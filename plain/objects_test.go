package plain_test

import (
	"math"
	"slices"
	"strconv"
	"strings"
	"testing"

	"windrow/api"
	"windrow/code"
)

// classesText are the classes that the tests of this file use.
const classesText = "class node next:ref n:int\nclass twin next:ref n:int\nclass none\n"

// ends has a program's first thread do instructions until it ends or is trapped: its last event, and what was put out.
func ends(t *testing.T, lines string) (api.Event, []int64) {
	t.Helper()
	m := machine(t, classesText+"func main\nlocals ref ref int\npoll\n"+lines+"\nreturn\nend\n", 1)
	var last api.Event
	for range 1000 {
		event, ok := m.Do(0, true)
		if !ok {
			break
		}
		last = event
	}
	var l []int64
	for _, o := range m.Outputs() {
		l = append(l, o.N)
	}
	if !m.Over() {
		t.Fatalf("%q goes on at %+v", lines, last)
	}
	return last, l
}

// right: does a program's first thread end, with these outputs?
func right(t *testing.T, lines string, want ...int64) {
	t.Helper()
	last, l := ends(t, lines)
	if last.Trap != 0 || last.Op != code.Return || !slices.Equal(l, want) {
		t.Errorf("%q: %+v, %v, not %v", lines, last, l, want)
	}
}

// trapped: is the last one of these lines where the thread is stopped by a trap?
func trapped(t *testing.T, lines string, trap int) {
	t.Helper()
	all := strings.Split(lines, "\n")
	op, _, _ := strings.Cut(all[len(all)-1], " ")
	// What the line would have put is dropped behind it.
	if !slices.Contains([]string{"put", "setint", "setref"}, op) {
		lines += "\ndrop"
	}
	last, _ := ends(t, lines)
	if want := (api.Event{Pc: len(all), Op: code.Find(op), Trap: trap, At: last.At}); last != want {
		t.Errorf("%q: %+v, not %+v", lines, last, want)
	}
}

// P18.1: objects are named from 1 on in the order in which they were made, and their words are 0.
func TestMake(t *testing.T) {
	m := machine(t, classesText+"func main\npoll\nnew none\nnew twin\nnew node\nconst 255\nnewints\nconst 0\nnewints\nconst 3\nnewrefs\nconst 0\nnewrefs\nconst 255\nnewrefs\nbehind:\npoll\njump behind\nend\n", 1)
	skip(t, m, 0, 1)
	var want []api.Cell
	for _, c := range []api.Cell{
		{Class: 2, Kind: api.Fields}, {Class: 1, Kind: api.Fields, Words: make([]int64, 2)}, {Kind: api.Fields, Words: make([]int64, 2)},
		{Kind: api.Ints, Words: make([]int64, 255)}, {Kind: api.Ints}, {Kind: api.Refs, Words: make([]int64, 3)}, {Kind: api.Refs}, {Kind: api.Refs, Words: make([]int64, 255)},
	} {
		th, _ := m.Thread(0)
		op, pc := code.New, th.Frames[0].Pc
		if c.Kind != api.Fields {
			skip(t, m, 0, 1)
			op, pc = code.NewInts+c.Kind-api.Ints, pc+1
		}
		c.Addr = int64(len(want)) + 1
		does(t, m, api.Event{Pc: pc, Op: op, Addr: c.Addr})
		want = append(want, c)
		if got := m.Cells(); !sameCells(got, want) {
			t.Fatalf("Cells = %+v, not %+v", got, want)
		}
		th, _ = m.Thread(0)
		if stack := th.Frames[0].Stack; stack[len(stack)-1] != ref(c.Addr) {
			t.Errorf("the stack is %v", stack)
		}
	}
}

// P18.1: without memory, what makes an object is stopped by TrapMemory, and nothing is made.
func TestWithoutMemory(t *testing.T) {
	for _, lines := range []string{"new none", "new node", "const 0\nnewints", "const 255\nnewints", "const 3\nnewrefs"} {
		m := machine(t, classesText+"func main\npoll\n"+lines+"\ndrop\nreturn\nend\n", 1)
		at := strings.Count(lines, "\n") + 1
		for range at {
			if event, ok := m.Do(0, false); event.Trap != 0 || !ok {
				t.Errorf("%q: %+v, %v", lines, event, ok)
			}
		}
		op, _, _ := strings.Cut(lines[strings.Index(lines, "new"):], " ")
		want := api.Event{Pc: at, Op: code.Find(op), Trap: api.TrapMemory, At: at}
		if event, ok := m.Do(0, false); event != want || !ok {
			t.Errorf("%q: %+v, %v, not %+v", lines, event, ok, want)
		}
		stands(t, m, 0, api.Thread{Status: api.Trapped, Trap: api.TrapMemory})
		if len(m.Cells()) != 0 || !m.Over() {
			t.Errorf("%q: %v, over %v", lines, m.Cells(), m.Over())
		}
	}
}

// P18.1: what was not made for want of memory takes no name.
func TestNamesBehindWant(t *testing.T) {
	m := machine(t, classesText+"func main\npoll\nspawn main\ndrop\nnew none\nsetglobal 0\nreturn\nend\n", 3)
	skip(t, m, 0, 3)
	skip(t, m, 1, 3)
	skip(t, m, 2, 1)
	does(t, m, api.Event{Pc: 3, Op: code.New, Addr: 1})
	if event, ok := m.Do(1, false); event.Trap != api.TrapMemory || event.Addr != 0 || !ok {
		t.Errorf("%+v, %v", event, ok)
	}
	does(t, m, api.Event{Thread: 2, Pc: 1, Op: code.Spawn, Trap: api.TrapThreads})
	skip(t, m, 0, 2)
	if l := m.Cells(); !sameCells(l, []api.Cell{{Addr: 1, Class: 2, Kind: api.Fields}}) || !m.Over() {
		t.Errorf("%+v, over %v", l, m.Over())
	}
}

// P18.1: what needs no new object does with and without memory the same.
func TestMemoryElsewhere(t *testing.T) {
	text := classesText + "func main\nlocals ref ref\npoll\nnew node\nstore 0\nconst 2\nnewrefs\nstore 1\ncollect\nload 0\nconst 5\nput node n\nload 0\nget node n\nout\nload 0\nnull\nload 0\ncas node next\nout\nload 1\nconst 1\nload 0\nsetref\nload 1\nconst 1\nrefat\nsetglobal 2\nglobal 2\nisnull\nout\nload 1\nlen\nout\nspawn other\njoin\nout\ncall other\nout\nreturn\nend\nfunc other -> int\npoll\nconst 9\nreturn\nend\n"
	c := checked(t, text)
	m, other := begun(t, c, 2), begun(t, c, 2)
	for range 200 {
		for who := range 2 {
			th, _ := m.Thread(0)
			memory := len(th.Frames) > 0 && th.Frames[0].Pc < 6
			a, did := m.Do(who, true)
			b, ok := other.Do(who, memory)
			if a != b || did != ok {
				t.Fatalf("%+v, %v, not %+v, %v", b, ok, a, did)
			}
		}
	}
	puts(t, m, api.Output{N: 5}, api.Output{N: 1}, api.Output{N: 0}, api.Output{N: 2}, api.Output{N: 9}, api.Output{N: 9})
	if !m.Over() || !same(whole(m), whole(other)) {
		t.Errorf("%+v, not %+v", whole(other), whole(m))
	}
}

// P18.1: fields are read and written; two objects of a class have words of their own.
func TestFields(t *testing.T) {
	two := "new node\nstore 0\nnew node\nstore 1\n"
	right(t, two+"load 0\nget node n\nout\nload 0\nget node next\nisnull\nout", 0, 1)
	right(t, two+"load 0\nconst -5\nput node n\nload 1\nconst 6\nput node n\nload 0\nload 1\nput node next\nload 0\nget node n\nout\nload 0\nget node next\nget node n\nout\nload 1\nget node next\nisnull\nout", -5, 6, 1)
	right(t, two+"load 0\nconst 9223372036854775807\nput node n\nload 0\nget node n\nout\nload 0\nconst -9223372036854775808\nput node n\nload 0\nget node n\nout", math.MaxInt64, math.MinInt64)
	// An object may refer to itself, and a field may refer to an object of any kind, or to nothing again.
	right(t, two+"load 0\nload 0\nput node next\nload 0\nget node next\nload 0\nsame\nout\nload 0\nconst 4\nnewints\nput node next\nload 0\nget node next\nlen\nout\nload 0\nnull\nput node next\nload 0\nget node next\nisnull\nout", 1, 4, 1)
}

// P18.1: cas writes if the word is what is expected, and tells which.
func TestChange(t *testing.T) {
	try := func(a, b string) string { return "load 0\n" + a + "\n" + b + "\ncas node " }
	n := "\nload 0\nget node n\nout\n"
	right(t, "new node\nstore 0\n"+try("const 1", "const 2")+"n\nout"+n+try("const 0", "const 5")+"n\nout"+n+try("const 5", "const 5")+"n\nout"+n+try("const 5", "const -7")+"n\nout"+n+try("const 7", "const 0")+"n\nout"+n,
		0, 0, 1, 5, 1, 5, 1, -7, 0, -7)
	same := "\nload 0\nget node next\nload 1\nsame\nout\n"
	right(t, "new node\nstore 0\nnew none\nstore 1\n"+try("load 1", "load 1")+"next\nout"+same+try("null", "load 1")+"next\nout"+same+try("load 0", "null")+"next\nout"+same+try("load 1", "load 0")+"next\nout"+same,
		0, 0, 1, 1, 0, 1, 1, 0)
	// A cas that finds something else is no trap.
	right(t, "new node\nstore 0\nconst 7\n"+try("const 1", "const 2")+"n\nout\nout", 0, 7)
}

// P18.1: places of arrays, the first and the last one.
func TestArrays(t *testing.T) {
	for _, n := range []int64{1, 2, 31, 255} {
		last, low := strconv.FormatInt(n-1, 10), int64(9)
		high := int64(8)
		if n == 1 {
			high = low
		}
		right(t, "const "+last+"\nconst 1\nadd\nnewints\nstore 0\nload 0\nconst "+last+"\nconst 8\nsetint\nload 0\nconst 0\nconst 9\nsetint\nload 0\nconst "+last+"\nintat\nout\nload 0\nconst 0\nintat\nout\nload 0\nlen\nout",
			high, low, n)
		right(t, "const "+last+"\nconst 1\nadd\nnewrefs\nstore 0\nload 0\nconst "+last+"\nrefat\nisnull\nout\nload 0\nconst "+last+"\nload 0\nsetref\nload 0\nconst "+last+"\nrefat\nload 0\nsame\nout\nload 0\nlen\nout", 1, 1, n)
	}
	right(t, "const 0\nnewints\nlen\nout\nconst 0\nnewrefs\nlen\nout", 0, 0)
}

// P18.1: TrapBounds at each place that an array hasn't.
func TestBounds(t *testing.T) {
	for _, n := range []int64{0, 1, 3, 255} {
		for _, i := range []int64{-1, n, n + 1, 1 << 32, math.MaxInt64, math.MinInt64, -1 << 32} {
			size, at := strconv.FormatInt(n, 10), strconv.FormatInt(i, 10)
			trapped(t, "const "+size+"\nnewints\nconst "+at+"\nintat", api.TrapBounds)
			trapped(t, "const "+size+"\nnewrefs\nconst "+at+"\nrefat", api.TrapBounds)
			trapped(t, "const "+size+"\nnewints\nconst "+at+"\nconst 1\nsetint", api.TrapBounds)
			trapped(t, "const "+size+"\nnewrefs\nconst "+at+"\nnull\nsetref", api.TrapBounds)
		}
	}
}

// P18.1: TrapClass at each object of another kind or class, also with the same fields; it comes ahead of TrapBounds.
func TestClass(t *testing.T) {
	objects := map[string]string{"node": "new node", "twin": "new twin", "none": "new none", "ints": "const 2\nnewints", "refs": "const 2\nnewrefs"}
	for _, x := range []struct {
		fit  []string
		line string
		trap int // of what fits
	}{
		{[]string{"node"}, "get node n", 0},
		{[]string{"twin"}, "get twin n", 0},
		{[]string{"node"}, "const 1\nput node n", 0},
		{[]string{"twin"}, "null\nput twin next", 0},
		{[]string{"node"}, "const 0\nconst 1\ncas node n", 0},
		{[]string{"twin"}, "null\nnull\ncas twin next", 0},
		{[]string{"ints", "refs"}, "len", 0},
		{[]string{"ints"}, "const 1\nintat", 0},
		{[]string{"ints"}, "const 9\nintat", api.TrapBounds},
		{[]string{"refs"}, "const 1\nrefat", 0},
		{[]string{"refs"}, "const -1\nrefat", api.TrapBounds},
		{[]string{"ints"}, "const 1\nconst 1\nsetint", 0},
		{[]string{"ints"}, "const 2\nconst 1\nsetint", api.TrapBounds},
		{[]string{"refs"}, "const 1\nnull\nsetref", 0},
		{[]string{"refs"}, "const 2\nnull\nsetref", api.TrapBounds},
	} {
		for name, made := range objects {
			lines := made + "\n" + x.line
			switch {
			case !slices.Contains(x.fit, name):
				trapped(t, lines, api.TrapClass)
			case x.trap != 0:
				trapped(t, lines, x.trap)
			case strings.Contains(x.line, "put") || strings.Contains(x.line, "set"):
				right(t, lines)
			default:
				right(t, lines+"\ndrop")
			}
		}
	}
}

// P18.1: a trap leaves all objects as they were.
func TestTrapsLeaveObjects(t *testing.T) {
	for _, lines := range []string{"load 0\nconst 1\nconst 9\nsetint", "load 1\nconst 2\nconst 9\nsetint", "load 1\nconst 1\nput node n", "load 0\nconst 5\nconst 6\ncas twin n\ndrop"} {
		m := machine(t, classesText+"func main\nlocals ref ref\npoll\nnew node\nstore 0\nconst 2\nnewints\nstore 1\nload 0\nconst 5\nput node n\n"+lines+"\nreturn\nend\n", 1)
		if done, e := m.Turns(100); done == 0 || e != api.OK || !m.Over() {
			t.Fatalf("%d, %d", done, e)
		}
		if th, _ := m.Thread(0); th.Status != api.Trapped {
			t.Errorf("%q: %+v", lines, th)
		}
		want := []api.Cell{{Addr: 1, Kind: api.Fields, Words: []int64{0, 5}}, {Addr: 2, Kind: api.Ints, Words: []int64{0, 0}}}
		if l := m.Cells(); !sameCells(l, want) {
			t.Errorf("%q: %+v", lines, l)
		}
	}
}

// P18.1: the eight globals are apart, and may refer to anything.
func TestGlobals(t *testing.T) {
	lines := "func main\npoll\n"
	for n := range 8 {
		lines += "const 1\nnewints\nsetglobal " + strconv.Itoa(n) + "\n"
	}
	m := machine(t, lines+"global 7\nsetglobal 0\nnull\nsetglobal 3\nglobal 3\nisnull\nout\nglobal 0\nglobal 7\nsame\nout\nglobal 0\nglobal 1\nsame\nout\nreturn\nend\n", 1)
	skip(t, m, 0, 1)
	for n := range 8 {
		skip(t, m, 0, 2)
		if l := m.Globals(); l[n] != 0 {
			t.Errorf("ahead of setglobal: %v", l)
		}
		skip(t, m, 0, 1)
		want := make([]int64, 8)
		for k := range n + 1 {
			want[k] = int64(k) + 1
		}
		if l := m.Globals(); !slices.Equal(l, want) {
			t.Errorf("%v, not %v", l, want)
		}
	}
	if _, e := m.Turns(100); e != api.OK || !m.Over() {
		t.Errorf("%d, over %v", e, m.Over())
	}
	if l := m.Globals(); !slices.Equal(l, []int64{8, 2, 3, 0, 5, 6, 7, 8}) {
		t.Errorf("Globals = %v", l)
	}
	puts(t, m, api.Output{N: 1}, api.Output{N: 1}, api.Output{N: 0})
}
