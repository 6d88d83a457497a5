package verify_test

import (
	"slices"
	"strconv"
	"strings"
	"testing"

	"windrow/api"
	"windrow/code"
	"windrow/verify"
)

// compare: does a checked program answer what the model has?
func compare(t *testing.T, c *verify.Checked, m *model) {
	t.Helper()
	for fn, f := range m.p.Funcs {
		for pc := range f.Code {
			want := m.points[fn][pc]
			got, e := c.Point(fn, pc)
			if got.Reached != want.reached || letters(got.Locals) != want.locals || letters(got.Stack) != want.stack || e != api.OK {
				t.Fatalf("%+v: Point(%d, %d) = %+v, %d, not %+v", m.p, fn, pc, got, e, want)
			}
			locals, stack, e := c.Map(fn, pc)
			if !want.reached && (locals != 0 || stack != 0 || e != api.ErrArg) || want.reached && (locals != bits(want.locals) || stack != bits(want.stack) || e != api.OK) {
				t.Fatalf("%+v: Map(%d, %d) = %b, %b, %d of %+v", m.p, fn, pc, locals, stack, e, want)
			}
		}
		if n, e := c.Row(fn); n != m.longest(fn) || n > 256 || e != api.OK {
			t.Fatalf("%+v: Row(%d) = %d, %d, not %d", m.p, fn, n, e, m.longest(fn))
		}
	}
}

// bits: one for each r.
func bits(s string) uint64 {
	var w uint64
	for i := range len(s) {
		if s[i] == 'r' {
			w |= 1 << i
		}
	}
	return w
}

// both: does Check answer what the model does? The error that both tell.
func both(t *testing.T, p api.Program) (verify.Place, api.Errno) {
	t.Helper()
	m, wantPlace, wantE := check(p)
	c, place, e := verify.Check(p)
	if place != wantPlace || e != wantE || (c == nil) != (e != api.OK) {
		t.Fatalf("Check(%+v) = %v, %+v, %d, not %+v, %d", p, c, place, e, wantPlace, wantE)
	}
	if e == api.OK {
		compare(t, c, m)
	}
	return place, e
}

// stacks: all rows of so many types, with some of one type below them.
func stacks(most int) []string {
	l := []string{""}
	for begin := 0; len(l[len(l)-1]) < most; {
		end := len(l)
		for _, s := range l[begin:end] {
			l = append(l, s+"i", s+"r")
		}
		begin = end
	}
	for _, s := range slices.Clone(l) {
		for n := 13; n <= 16; n++ {
			if len(s) < n {
				l = append(l, strings.Repeat("i", n-len(s))+s, strings.Repeat("r", n-len(s))+s)
			}
		}
	}
	return l
}

// effectInstructions: all instructions, with the operands that make a difference.
func effectInstructions() []api.Ins {
	var l []api.Ins
	for op := 1; op <= code.Ops; op++ {
		switch code.Name(op) {
		case "load", "store":
			for a := range 4 {
				l = append(l, api.Ins{Op: op, A: int64(a)})
			}
		case "call", "spawn":
			for a := range 6 {
				l = append(l, api.Ins{Op: op, A: int64(a)})
			}
		case "get", "put", "cas":
			l = append(l, api.Ins{Op: op}, api.Ins{Op: op, B: 1}, api.Ins{Op: op, A: 1})
		case "jump", "jumpif":
			// Their target depends on where they stand.
			l = append(l, api.Ins{Op: op, A: -1})
		default:
			l = append(l, api.Ins{Op: op})
		}
	}
	return l
}

// effectProgram: a program whose function 5 pushes these values, ahead of the instruction, and then loops.
func effectProgram(stack string, i api.Ins, result int) api.Program {
	f := api.Func{Name: "own", Params: []int{api.Int, api.Ref}, Locals: []int{api.Int, api.Ref}, Result: result, Code: []api.Ins{{Op: code.Poll}}}
	for _, kind := range numbers(stack) {
		f.Code = append(f.Code, api.Ins{Op: []int{0, code.Const, code.Null}[kind]})
	}
	if i.A < 0 {
		i.A = int64(len(f.Code)) + 1
	}
	loop := int64(len(f.Code)) + 1
	f.Code = append(f.Code, i, api.Ins{Op: code.Poll}, api.Ins{Op: code.Jump, A: loop})
	return api.Program{
		Classes: []api.Class{{Name: "a", Fields: []api.Field{{Name: "x", Type: api.Int}, {Name: "y", Type: api.Ref}}}, {Name: "b", Fields: []api.Field{{Name: "x", Type: api.Ref}}}},
		Funcs: []api.Func{
			{Name: "main", Code: []api.Ins{{Op: code.Poll}, {Op: code.Return}}},
			{Name: "f", Params: []int{api.Int, api.Ref}, Result: api.Ref, Code: []api.Ins{{Op: code.Poll}, {Op: code.Null}, {Op: code.Return}}},
			{Name: "g", Params: []int{api.Ref, api.Int}, Result: api.Int, Code: []api.Ins{{Op: code.Poll}, {Op: code.Const}, {Op: code.Return}}},
			{Name: "h", Params: []int{api.Int, api.Int, api.Ref}, Code: []api.Ins{{Op: code.Poll}, {Op: code.Return}}},
			{Name: "k", Result: api.Int, Code: []api.Ins{{Op: code.Poll}, {Op: code.Const}, {Op: code.Return}}},
			f,
		},
	}
}

// P15.1: each instruction's effect, on all stacks of up to three values and on ones that are nearly full.
func TestEffects(t *testing.T) {
	counts := map[api.Errno]int{}
	for _, i := range effectInstructions() {
		for _, stack := range stacks(4) {
			for result := range 3 {
				if i.Op != code.Return && result > 0 {
					continue
				}
				place, e := both(t, effectProgram(stack, i, result))
				if e != api.OK && place != (verify.Place{Fn: 5, Pc: len(stack) + 1}) {
					t.Fatalf("%+v on %q: %+v, %d", i, stack, place, e)
				}
				counts[e]++
			}
		}
	}
	for _, e := range []api.Errno{api.OK, api.ErrType, api.ErrDepth} {
		if counts[e] < 500 {
			t.Errorf("%d was hardly tried: %d times", e, counts[e])
		}
	}
}

// P15.1: effects as the chapter has them, written out.
func TestKnownEffects(t *testing.T) {
	load := func(n int64) api.Ins { return api.Ins{Op: code.Load, A: n} }
	call := func(n int64) api.Ins { return api.Ins{Op: code.Call, A: n} }
	spawn := func(n int64) api.Ins { return api.Ins{Op: code.Spawn, A: n} }
	op := func(n int) api.Ins { return api.Ins{Op: n} }
	full, nearly := strings.Repeat("i", 16), strings.Repeat("r", 15)
	for _, x := range []struct {
		stack string
		i     api.Ins
		after string
		e     api.Errno
	}{
		{"", op(code.Const), "i", api.OK}, {nearly, op(code.Const), nearly + "i", api.OK}, {full, op(code.Const), "", api.ErrDepth},
		{full, op(code.Null), "", api.ErrDepth}, {full, op(code.Global), "", api.ErrDepth}, {full, op(code.New), "", api.ErrDepth},
		{"", load(0), "i", api.OK}, {"", load(1), "r", api.OK}, {"", load(2), "", api.ErrType}, {full, load(0), "", api.ErrDepth}, {full, load(3), "", api.ErrType},
		{"ir", op(code.Swap), "ri", api.OK}, {"r", op(code.Swap), "", api.ErrDepth}, {"", op(code.Swap), "", api.ErrDepth}, {full, op(code.Swap), full, api.OK},
		{"ir", op(code.Dup), "irr", api.OK}, {full, op(code.Dup), "", api.ErrDepth}, {"", op(code.Dup), "", api.ErrDepth}, {"r", op(code.Drop), "", api.OK}, {"", op(code.Drop), "", api.ErrDepth},
		{"i", op(code.Add), "", api.ErrDepth}, {"r", op(code.Add), "", api.ErrType}, {"ri", op(code.Add), "", api.ErrType}, {"rii", op(code.Less), "ri", api.OK}, {full, op(code.Sub), full[1:], api.OK},
		{"i", op(code.Same), "", api.ErrType}, {"r", op(code.Same), "", api.ErrDepth}, {"rr", op(code.Same), "i", api.OK}, {"rr", op(code.Eq), "", api.ErrType},
		{"ir", call(1), "r", api.OK}, {"ri", call(1), "", api.ErrType}, {"r", call(1), "", api.ErrDepth}, {"ri", call(2), "i", api.OK}, {"riir", call(3), "r", api.OK}, {"", call(4), "i", api.OK}, {full, call(4), "", api.ErrDepth},
		{"ri", spawn(2), "i", api.OK}, {"iir", spawn(3), "i", api.OK}, {"ir", spawn(1), "", api.ErrType}, {"", spawn(1), "", api.ErrType}, {full, spawn(4), "", api.ErrDepth}, {full, spawn(0), "", api.ErrDepth}, {"", spawn(0), "i", api.OK},
		{"ri", api.Ins{Op: code.Put}, "", api.OK}, {"rr", api.Ins{Op: code.Put}, "", api.ErrType}, {"rr", api.Ins{Op: code.Put, B: 1}, "", api.OK}, {"r", api.Ins{Op: code.Get, B: 1}, "r", api.OK}, {"r", api.Ins{Op: code.Get}, "i", api.OK},
		{"rii", api.Ins{Op: code.Cas}, "i", api.OK}, {"rrr", api.Ins{Op: code.Cas, A: 1}, "i", api.OK}, {"rri", api.Ins{Op: code.Cas, B: 1}, "", api.ErrType}, {"ii", api.Ins{Op: code.Cas}, "", api.ErrDepth}, {"rir", api.Ins{Op: code.Cas, B: 1}, "", api.ErrType},
		{"rir", op(code.SetRef), "", api.OK}, {"rii", op(code.SetInt), "", api.OK}, {"rii", op(code.SetRef), "", api.ErrType}, {"ri", op(code.RefAt), "r", api.OK}, {"ri", op(code.IntAt), "i", api.OK}, {"ir", op(code.IntAt), "", api.ErrType},
		{"i", op(code.NewRefs), "r", api.OK}, {"i", op(code.NewInts), "r", api.OK}, {"r", op(code.NewInts), "", api.ErrType}, {"r", op(code.Len), "i", api.OK}, {"r", op(code.IsNull), "i", api.OK}, {"i", op(code.Len), "", api.ErrType},
		{"r", op(code.SetGlobal), "", api.OK}, {"i", op(code.SetGlobal), "", api.ErrType}, {"i", op(code.Out), "", api.OK}, {"i", op(code.Join), "i", api.OK}, {"r", op(code.Join), "", api.ErrType}, {full, op(code.Poll), full, api.OK}, {full, op(code.Collect), full, api.OK},
		{"i", api.Ins{Op: code.JumpIf, A: -1}, "", api.OK}, {"r", api.Ins{Op: code.JumpIf, A: -1}, "", api.ErrType}, {full, api.Ins{Op: code.Jump, A: -1}, full, api.OK},
	} {
		p := effectProgram(x.stack, x.i, api.None)
		if x.e != api.OK {
			wrong(t, p, 5, len(x.stack)+1, x.e)
			continue
		}
		point(t, right(t, p), 5, len(x.stack)+2, "ir--", x.after)
	}
	point(t, right(t, effectProgram("i", api.Ins{Op: code.Store, A: 2}, 0)), 5, 3, "iri-", "")
	point(t, right(t, effectProgram("r", api.Ins{Op: code.Store, A: 3}, 0)), 5, 3, "ir-r", "")
	for _, x := range []struct {
		stack  string
		result int
		e      api.Errno
	}{
		{"", api.None, api.OK}, {"i", api.None, api.ErrDepth}, {"i", api.Int, api.OK}, {"", api.Int, api.ErrDepth}, {"r", api.Int, api.ErrType},
		{"ir", api.Int, api.ErrType}, {"ii", api.Int, api.ErrDepth}, {"r", api.Ref, api.OK}, {"i", api.Ref, api.ErrType}, {"rr", api.Ref, api.ErrDepth}, {"ir", api.Ref, api.ErrDepth},
	} {
		p := effectProgram(x.stack, op(code.Return), x.result)
		if x.e != api.OK {
			wrong(t, p, 5, len(x.stack)+1, x.e)
		} else {
			right(t, p)
		}
	}
}

// P15.1: what is passed on to an instruction from several sides.
func TestMerges(t *testing.T) {
	head := "func main\nlocals int ref\npoll\n"
	for _, x := range []struct {
		text string
		pc   int
		e    api.Errno
	}{
		// What is stored on one side alone may not be loaded.
		{"const 1\njumpif x\nconst 2\nstore 0\nx:\nload 0\ndrop\nreturn\nend", 5, api.ErrType},
		{"const 1\nstore 0\nconst 1\njumpif x\nconst 2\nstore 0\nx:\nload 0\ndrop\nreturn\nend", 0, api.OK},
		// The loop's beginning is reached a second time, with less than at first.
		{"x:\npoll\nconst 1\nstore 0\nload 0\njumpif x\nreturn\nend", 0, api.OK},
		{"const 1\nstore 0\nconst 1\njumpif y\nx:\npoll\nload 0\njumpif x\nreturn\ny:\npoll\njump x\nend", 0, api.OK},
		// Stacks that differ: told at the instruction from which the second one comes.
		{"const 1\njumpif x\nconst 2\nx:\nreturn\nend", 3, api.ErrDepth},
		{"x:\npoll\nconst 1\njump x\nend", 3, api.ErrDepth},
		{"null\nx:\npoll\ndrop\nconst 1\njump x\nend", 5, api.ErrType},
		{"null\nx:\npoll\nconst 1\njumpif x\ndrop\nconst 1\njump x\nend", 7, api.ErrType},
		{"const 1\nx:\npoll\nconst 1\njumpif x\ndrop\njump x\nend", 6, api.ErrDepth},
		// The end.
		{"null\ndrop\nend", 2, api.ErrFall},
		{"end", 0, api.ErrFall},
		{"const 1\njumpif x\nreturn\nx:\nconst 1\nout\nend", 5, api.ErrFall},
		{"x:\npoll\nconst 1\njumpif x\nend", 3, api.ErrFall},
		{"x:\npoll\nconst 1\nconst 1\njumpif x\nend", 4, api.ErrDepth}, // the target comes ahead of what is missing
		{"x:\npoll\njump x\nend", 0, api.OK},
		{"return\nend", 0, api.OK},
		{"return\nconst 1\nend", 0, api.OK}, // what is never reached may be anything
		{"return\nadd\nload 0\nstore 1\nswap\nend", 0, api.OK},
	} {
		p := parsed(t, head+x.text)
		place, e := both(t, p)
		if want := (verify.Place{Pc: x.pc}); place != want || e != x.e {
			t.Errorf("%q: %+v, %d, not %+v, %d", x.text, place, e, want, x.e)
		}
	}
}

// P15.1: of several wrong instructions, the lowest one that waits is told, though another one waits longer.
func TestLowest(t *testing.T) {
	p := parsed(t, "func main\npoll\nconst 1\njumpif x\nneg\nreturn\nx:\nneg\nreturn\nend")
	wrong(t, p, 0, 3, api.ErrDepth)
	// The way back makes the lower one wait again, ahead of the wrong one behind it.
	p = parsed(t, "func main\nlocals int\npoll\nconst 1\nstore 0\njump over\nlow:\npoll\nload 0\njumpif end\nload 0\ndrop\nend:\nreturn\nover:\nconst 1\njumpif low\nneg\nreturn\nend")
	wrong(t, p, 0, 12, api.ErrDepth)
	// Behind the jump back, load 0 is wrong at 5; neg at 14 waits by then, too.
	p = parsed(t, "func main\nlocals int\npoll\nconst 1\nstore 0\njump over\nlow:\npoll\nload 0\njumpif end\nend:\nreturn\nover:\nconst 1\njumpif low\nconst 1\njumpif last\nreturn\nlast:\nneg\nreturn\nend")
	wrong(t, p, 0, 13, api.ErrDepth)
}

// P15.1: the first instruction keeps what is known where the function begins.
func TestFirstAgain(t *testing.T) {
	p := parsed(t, "func main\nlocals ref\na:\npoll\nnull\nstore 0\njump a\nend")
	point(t, right(t, p), 0, 0, "-", "")
	p = parsed(t, "func main\nlocals ref\na:\npoll\nload 0\nstore 0\njump a\nend")
	wrong(t, p, 0, 1, api.ErrType)
	p = parsed(t, "func main\nreturn\nend\nfunc f int\na:\npoll\nload 0\njump a\nend")
	p.Funcs[0].Code = []api.Ins{{Op: code.Poll}, {Op: code.Return}}
	wrong(t, p, 1, 2, api.ErrDepth)
}

// P15.1: locals that are known at first, and that another way to the same instruction takes away later.
func TestLocalsTakenAway(t *testing.T) {
	head := "func main\nlocals int ref\npoll\n"
	for _, x := range []struct {
		text string
		pc   int
		e    api.Errno
	}{
		// The instruction still waits.
		{"const 1\njumpif a\nconst 1\nstore 0\njump m\na:\njump m\nm:\nload 0\ndrop\nreturn\nend", 7, api.ErrType},
		{"const 1\njumpif a\nconst 1\nstore 0\njump m\na:\njump m\nm:\nload 1\ndrop\nreturn\nend", 7, api.ErrType},
		{"const 1\njumpif a\nconst 1\nstore 0\njump m\na:\nconst 2\nstore 0\njump m\nm:\nload 0\ndrop\nreturn\nend", 0, api.OK},
		// It was processed already, and so were those behind it.
		{"jump begin\nm:\npoll\ncollect\nload 0\ndrop\nreturn\nbegin:\nconst 1\njumpif a\nconst 1\nstore 0\njump m\na:\njump m\nend", 4, api.ErrType},
		{"jump begin\nm:\npoll\nnull\nstore 1\nload 1\ndrop\nreturn\nbegin:\nconst 1\njumpif a\nnull\nstore 1\njump m\na:\njump m\nend", 0, api.OK},
		// A loop whose end is reached with less than its beginning was, by way of another loop.
		{"jump begin\nm:\npoll\nconst 1\njumpif n\nreturn\nn:\npoll\nconst 1\njumpif m\nload 1\nsetglobal 0\nreturn\nbegin:\nconst 1\njumpif a\nnull\nstore 1\njump n\na:\njump m\nend", 9, api.ErrType},
	} {
		p := parsed(t, head+x.text)
		place, e := both(t, p)
		if want := (verify.Place{Pc: x.pc}); place != want || e != x.e {
			t.Errorf("%q: %+v, %d, not %+v, %d", x.text, place, e, want, x.e)
		}
	}
	p := parsed(t, head+"jump begin\nm:\npoll\nreturn\nbegin:\nconst 1\njumpif a\nconst 1\nstore 0\nnull\nstore 1\njump m\na:\nconst 2\nstore 0\njump m\nend")
	point(t, right(t, p), 0, 2, "i-", "")
	point(t, right(t, p), 0, 3, "i-", "")
	mapped(t, right(t, p), 0, 3, 0, 0)
}

// P15.1: locals that are stored and loaded on many ways that meet anywhere.
func TestTangles(t *testing.T) {
	s := seed(151)
	counts := map[api.Errno]int{}
	for range 6000 {
		_, e := both(t, s.tangle())
		counts[e]++
	}
	if counts[api.OK] < 500 || counts[api.ErrType] < 500 {
		t.Errorf("hardly tried: %v", counts)
	}
}

// P15.1: sixteen locals that become None one after the other, in a loop of the greatest length.
func TestManyRounds(t *testing.T) {
	f := api.Func{Name: "main", Code: []api.Ins{{Op: code.Poll}}}
	for n := range int64(16) {
		f.Locals = append(f.Locals, api.Int)
		f.Code = append(f.Code, api.Ins{Op: code.Const}, api.Ins{Op: code.Store, A: n})
	}
	for n := range int64(16) {
		begin := int64(len(f.Code))
		f.Code = append(f.Code, api.Ins{Op: code.Poll}, api.Ins{Op: code.Const}, api.Ins{Op: code.JumpIf, A: begin}, api.Ins{Op: code.Const}, api.Ins{Op: code.JumpIf, A: max(begin-4, 33)}, api.Ins{Op: code.Global, A: n % 8}, api.Ins{Op: code.Drop})
	}
	for len(f.Code) < 255 {
		f.Code = append(f.Code, api.Ins{Op: code.Collect})
	}
	for at := int64(33 + 4); at < 33+7*16; at += 7 {
		// All jumps go back to a poll.
		f.Code[at].A = (at-33)/7*7 + 33
	}
	f.Code = append(f.Code, api.Ins{Op: code.Jump, A: 0})
	if _, e := both(t, api.Program{Funcs: []api.Func{f}}); e != api.OK {
		t.Error(e)
	}
	// Each round takes one local away: the loads' types are those of the locals' last round.
	text := "func main\nlocals" + strings.Repeat(" int", 16) + "\npoll\n"
	for n := range 16 {
		text += "const 1\nstore " + strconv.Itoa(n) + "\n"
	}
	text += "jump test\nagain:\npoll\n"
	for n := range 15 {
		text += "const 1\njumpif s" + strconv.Itoa(n) + "\nconst 2\nstore " + strconv.Itoa(n) + "\ns" + strconv.Itoa(n) + ":\ncollect\n"
	}
	text += "test:\npoll\nconst 1\njumpif again\nreturn\nend"
	if _, e := both(t, parsed(t, text)); e != api.OK {
		t.Error(e)
	}
}

// P15.1, P15.2: rows of instructions without a poll.
func TestRows(t *testing.T) {
	for _, x := range []struct {
		text string
		want int
	}{
		{"poll\nreturn", 1},
		{"poll\nx:\npoll\njump x", 1},
		{"poll\ncollect\ncollect\npoll\ncollect\nreturn", 2},
		{"poll\ncollect\npoll\ncollect\ncollect\nreturn", 3},
		{"poll\ncall f\ncollect\nreturn", 2},          // a call ends a row
		{"poll\ncollect\ncollect\ncall f\nreturn", 3}, // and belongs to it
		{"poll\nspawn f\ndrop\nreturn", 3},            // a spawn ends none
		{"poll\nconst 1\njumpif x\ncollect\ncollect\nx:\nreturn", 5},
		{"poll\nconst 1\njumpif x\npoll\nreturn\nx:\ncollect\ncollect\ncollect\nreturn", 6},
		{"poll\nconst 1\njumpif x\ncall f\nx:\ncollect\nreturn", 4},
		{"poll\nreturn\ncollect\ncollect\ncollect\ncollect\nreturn", 1}, // never reached
		{"poll\njump x\ncollect\ncollect\ncollect\nx:\nreturn", 2},
		{"poll\npoll\npoll\nx:\npoll\nconst 1\njumpif x\npoll\nreturn", 2},
	} {
		p := parsed(t, "func main\n"+x.text+"\nend\nfunc f\npoll\nreturn\nend")
		longestRow(t, right(t, p), 0, x.want)
		both(t, p)
	}
	f := api.Func{Name: "main", Code: make([]api.Ins, 256)}
	for pc := range f.Code {
		f.Code[pc].Op = code.Collect
	}
	f.Code[0].Op, f.Code[255].Op = code.Poll, code.Return
	longestRow(t, right(t, api.Program{Funcs: []api.Func{f}}), 0, 255)
}

// P15.1: programs without a pattern, right and wrong ones, against the chapter's words.
func TestManyPrograms(t *testing.T) {
	s := seed(15)
	counts := map[api.Errno]int{}
	for range 30000 {
		_, e := both(t, s.wild())
		counts[e]++
	}
	for range 1500 {
		p := s.tame(4, 200)
		tooLong := slices.ContainsFunc(p.Funcs, func(f api.Func) bool { return len(f.Code) > 256 })
		if _, e := both(t, p); e != api.OK && !tooLong {
			t.Fatalf("%+v: %d", p, e)
		}
		for range 6 {
			_, e := both(t, s.hurt(p))
			counts[e]++
		}
		p = s.hurt(s.hurt(s.hurt(p)))
		_, e := both(t, p)
		counts[e]++
	}
	for _, e := range []api.Errno{api.OK, api.ErrFunc, api.ErrLocal, api.ErrGlobal, api.ErrClass, api.ErrField, api.ErrOp, api.ErrTarget, api.ErrType, api.ErrDepth, api.ErrPoll, api.ErrFall} {
		if counts[e] < 60 {
			t.Errorf("%d was hardly tried: %d times", e, counts[e])
		}
	}
}

// P15.2: whatever way is taken through a function, a poll comes soon enough.
func TestWalks(t *testing.T) {
	s := seed(152)
	longest := 0
	for range 300 {
		p := s.tame(3, 150)
		c, _, e := verify.Check(p)
		if e != api.OK {
			continue
		}
		for fn, f := range p.Funcs {
			most, _ := c.Row(fn)
			for range 10 {
				longest = max(longest, s.walk(t, f, most))
			}
		}
	}
	if longest < 20 {
		t.Errorf("the longest way had %d instructions", longest)
	}
}

// walk goes through a function at random; the greatest number of instructions on the way without a poll.
func (s *seed) walk(t *testing.T, f api.Func, most int) int {
	t.Helper()
	longest, n, pc := 0, 0, 0
	for range 500 {
		n++
		if f.Code[pc].Op == code.Poll {
			n = 0
		}
		if longest = max(longest, n); n > most || n > 256 {
			t.Fatalf("%+v: %d instructions without a poll up to %d, not %d", f, n, pc, most)
		}
		if f.Code[pc].Op == code.Call {
			n = 0 // the other function begins with one
		}
		nexts := follow(f, pc)
		if len(nexts) == 0 {
			return longest
		}
		pc = nexts[s.below(len(nexts))]
	}
	return longest
}
