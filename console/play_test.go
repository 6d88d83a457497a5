package console_test

import (
	"fmt"
	"strconv"
	"strings"
	"testing"

	"windrow/api"
	"windrow/asm"
	"windrow/console"
	"windrow/verify"
	"windrow/world"
)

// script: the lines of a program as an order, and further ones.
func script(program string, orders ...string) string {
	return "program\n" + program + ".\n" + strings.Join(orders, "\n")
}

const (
	small   = "func main\npoll\nconst 7\nout\nreturn\nend\n"
	endless = "func main\npoll\nmore:\npoll\njump more\nend\n"
)

// The chapter's example.
func TestExample(t *testing.T) {
	got := console.Play("program\nfunc main\npoll\nconst 7\nout\nreturn\nend\n.\nstart 1 1 1 1\nturns 100\nout\nstate\n")
	var n int
	if _, err := fmt.Sscanf(got, "program 0 1\nstarted\npicks %d\n", &n); err != nil || n < 4 || n >= 100 {
		t.Errorf("%q", got)
	}
	if want := fmt.Sprintf("program 0 1\nstarted\npicks %d\nout 0 7\nstate over 1 threads 1 outputs 1\n", n); got != want {
		t.Errorf("%q, not %q", got, want)
	}
}

// after: what is reported behind the first lines, of which there are so many.
func after(report string, lines int) string {
	l := strings.SplitAfter(report, "\n")
	return strings.Join(l[min(lines, len(l)):], "")
}

// Whatever a script reports when its threads have ended, without what hangs on the numbers of steps.
func TestReports(t *testing.T) {
	const program = `class pair a:ref b:ref
class leaf n:int
class none
func main -> int
locals ref int
poll
new pair
dup
store 0
setglobal 1
load 0
new leaf
dup
const -5
put leaf n
put pair b
const 3
newrefs
dup
const 2
load 0
setref
setglobal 7
const 2
newints
dup
const 1
const 9223372036854775807
setint
setglobal 0
new none
setglobal 6
const 0
newints
setglobal 5
const 40
load 0
spawn work
store 1
load 1
join
out
const -3
out
load 1
drop
null
get leaf n
return
end
func work int ref -> int
poll
load 0
const 2
add
dup
out
return
end
`
	want := []string{
		"out 1 42\nout 0 42\nout 0 -3\n",
		"thread 0 trapped 0 1\nthread 1 ended 42 0\n",
		"heap 6\nobject 1 ints 0 9223372036854775807\nobject 2 pair 0 6\nobject 3 ints\nobject 4 none\nobject 5 refs 0 0 2\nobject 6 leaf -5\n",
		"globals 5\n",
		"state over 1 threads 2 outputs 3\n",
		"event 0 0 38 out 0\nevent 0 0 39 load 0\nevent 0 0 40 drop 0\nevent 0 0 41 null 0\nevent 0 0 42 get 1\n",
		"",
		"again same 6\n",
	}
	orders := []string{"out", "threads", "heap", "globals", "state", "events 5", "events 0", "again"}
	for _, start := range []string{"start 8 2 1 1", "start 6 2 1 1", "start 32 6 16 64", "start 9 3 2 5"} {
		text := script(program, append([]string{start, "turns 30000"}, orders...)...)
		got := console.Play(text)
		if !strings.HasPrefix(got, "program 3 2\nstarted\npicks ") || after(got, 3) != strings.Join(want, "") {
			t.Fatalf("%s: %s", start, got)
		}
		// Each of them once more, in any order: what is told stays as it is.
		for n, order := range orders {
			if got := after(console.Play(text+"\n"+order), strings.Count(got, "\n")); got != want[n] {
				t.Errorf("%s: %q, not %q", order, got, want[n])
			}
		}
	}
}

// reports: the lines of a script behind its program and its start.
func reports(t *testing.T, program, start string, orders ...string) string {
	t.Helper()
	got := console.Play(script(program, append([]string{start}, orders...)...))
	_, after, ok := strings.Cut(got, "\nstarted\n")
	if !ok {
		t.Fatalf("%s", got)
	}
	return after
}

// At its beginning a world has a thread, and has done nothing.
func TestBeginning(t *testing.T) {
	got := reports(t, endless, "start 3 2 1 1", "out", "threads", "heap", "globals", "state", "events 9", "again", "pick", "pick 1 7 65536", "turns 0")
	if want := "thread 0 running 0 0\nheap 0\nglobals 0\nstate over 0 threads 1 outputs 0\nagain same 0\ndone 0\ndone 0\npicks 0\n"; got != want {
		t.Errorf("%s", got)
	}
}

// pick: how many instructions took effect, of those of all picks; turns: how many picks there were; finish: how many cycles, with those before.
func TestSteps(t *testing.T) {
	if got := reports(t, endless, "start 1 1 1 1", "pick 0 0 c 0 1", "turns 9", "turns 65536"); got != "done 3\npicks 9\npicks 65536\n" {
		t.Errorf("%s", got)
	}
	if got := reports(t, small, "start 1 1 1 1", "finish 5000", "finish 5000", "finish 5000", "out"); got != "cycles 1\ncycles 2\ncycles 3\nout 0 7\n" {
		t.Errorf("%s", got)
	}
	got := reports(t, small, "start 1 1 1 1", "turns 60000", "turns 60000", "pick 0 0 0")
	if !strings.HasSuffix(got, "\npicks 0\ndone 0\n") {
		t.Errorf("%s", got)
	}
}

// events: the last ones alone, the oldest first.
func TestEvents(t *testing.T) {
	all := []string{"event 0 0 0 poll 0\n", "event 0 0 1 const 0\n", "event 0 0 2 const 0\n", "event 0 0 3 div 3\n"}
	for n, order := range []string{"events 0", "events 1", "events 2", "events 3", "events 4", "events 5", "events 65536"} {
		got := after(reports(t, "func main\npoll\nconst 1\nconst 0\ndiv\nout\nreturn\nend\n", "start 1 1 1 1", "turns 100", order), 1)
		if want := strings.Join(all[max(0, len(all)-n):], ""); got != want {
			t.Errorf("%s: %s", order, got)
		}
	}
}

// until: an order of picks of thread 0, after which it is in a state.
func until(t *testing.T, program string, cfg world.Config, status int) string {
	t.Helper()
	p, line, e := asm.Parse(program)
	if e != api.OK {
		t.Fatal(e, line)
	}
	c, place, e := verify.Check(p)
	if e != api.OK {
		t.Fatal(e, place)
	}
	w, e := world.New(c, cfg)
	if e != api.OK {
		t.Fatal(e)
	}
	for n := range 5000 {
		if v, _ := w.View(); v.Threads[0].Status == status {
			return "pick" + strings.Repeat(" 0", n)
		}
		w.Pick(0)
	}
	t.Fatal("it never is")
	return ""
}

// threads: each status, with what threads ended with and the traps that stopped them.
func TestStatuses(t *testing.T) {
	const waits = "func main -> int\npoll\nspawn work\njoin\nreturn\nend\nfunc work -> int\npoll\nconst -9\nreturn\nend\n"
	const grows = "class a r:ref\nfunc main\nlocals ref\npoll\nmore:\npoll\nnew a\nstore 0\nload 0\nglobal 0\nput a r\nload 0\nsetglobal 0\njump more\nend\n"
	for _, x := range []struct {
		program string
		start   string
		orders  []string
		want    string
	}{
		{endless, "start 1 1 1 1", []string{"threads", "state"}, "thread 0 running 0 0\nstate over 0 threads 1 outputs 0\n"},
		{waits, "start 1 2 1 1", []string{until(t, waits, world.Config{Pages: 1, Threads: 2, Ring: 1, Marks: 1}, api.Joining), "threads", "state"}, "done 2\nthread 0 joining 0 0\nthread 1 running 0 0\nstate over 0 threads 2 outputs 0\n"},
		{waits, "start 1 2 1 1", []string{until(t, waits, world.Config{Pages: 1, Threads: 2, Ring: 1, Marks: 1}, api.Joining), "pick" + strings.Repeat(" 1 0", 40), "threads", "state"},
			"done 2\ndone 5\nthread 0 ended -9 0\nthread 1 ended -9 0\nstate over 1 threads 2 outputs 0\n"},
		{grows, "start 1 1 1 1", []string{until(t, grows, world.Config{Pages: 1, Threads: 1, Ring: 1, Marks: 1}, api.Wanting), "threads", "state"}, "done 290\nthread 0 wanting 0 0\nstate over 0 threads 1 outputs 0\n"},
		{grows, "start 1 1 1 1", []string{until(t, grows, world.Config{Pages: 1, Threads: 1, Ring: 1, Marks: 1}, api.Trapped), "threads", "events 1", "again"}, "done 291\nthread 0 trapped 0 7\nevent 0 0 2 new 7\nagain same 32\n"},
	} {
		if got := reports(t, x.program, x.start, x.orders...); got != x.want {
			t.Errorf("%v: %s", x.orders, got)
		}
	}
	for trap, body := range map[int]string{
		1: "null\nget a n\ndrop", 2: "const 3\nnewints\nconst 3\nintat\ndrop", 3: "const 1\nconst 0\nrem\ndrop", 4: "call main", 5: "new b\nget a n\ndrop", 6: "const -1\nnewrefs\ndrop", 7: "const 200\nnewints\ndrop", 8: "spawn main\ndrop", 9: "const 1\njoin\ndrop",
		10: "more:\npoll\nconst 1\nout\njump more",
	} {
		got := reports(t, "class a n:int\nclass b\nfunc main\npoll\n"+body+"\nreturn\nend\n", "start 1 1 1 1", "turns 65536", "threads", "state", "again")
		if !strings.Contains(got, fmt.Sprintf("\nthread 0 trapped 0 %d\nstate over 1 threads 1 outputs ", trap)) || !strings.Contains(got, "again same ") {
			t.Errorf("%s: %s", body, got)
		}
	}
}

// globals: how many refer to something.
func TestGlobals(t *testing.T) {
	for n := range 9 {
		text := "class a\nfunc main\npoll\nnew a\nsetglobal 7\nnull\nsetglobal 7\n"
		for i := range n {
			text += "new a\nsetglobal " + strconv.Itoa(i*3%8) + "\n"
		}
		if got, want := after(reports(t, text+"return\nend\n", "start 2 1 1 1", "turns 1000", "globals"), 1), fmt.Sprintf("globals %d\n", n); got != want {
			t.Error(got, want)
		}
	}
}

// ask: each kind of local, also of parameters and of a function that was called; and what there is not.
func TestAsk(t *testing.T) {
	const first = "func main\nlocals int int ref ref ref\npoll\nmore:\npoll\njump more\nend\n"
	const set = "class a\nfunc main\nlocals int int ref ref ref\npoll\nconst -7\nstore 0\nnull\nstore 2\nnew a\nstore 3\nmore:\npoll\njump more\nend\n"
	const called = "func main\nlocals int\npoll\nconst 2\nstore 0\nnull\nconst 12\ncall deep\nreturn\nend\nfunc deep ref int\nlocals ref int\npoll\nconst 3\nnewints\nstore 0\nconst 4\nspawn other\nstore 3\nmore:\npoll\njump more\nend\nfunc other int\npoll\nreturn\nend\n"
	none, noThread, noFrame, noLocal := "local none\n", api.ErrArg, api.ErrState, api.ErrLocal
	for _, x := range []struct {
		program string
		want    string
		e       api.Errno
		order   string
	}{
		{first, none, 0, "ask 0 0"}, {first, none, 0, "ask 0 1"}, {first, none, 0, "ask 0 2"}, {first, none, 0, "ask 0 4"}, {first, "", noLocal, "ask 0 5"}, {endless, "", noLocal, "ask 0 0"},
		{set, "local int -7\n", 0, "ask 0 0"}, {set, none, 0, "ask 0 1"}, {set, "local ref 0\n", 0, "ask 0 2"}, {set, "local ref 1\n", 0, "ask 0 3"}, {set, none, 0, "ask 0 4"}, {set, "", noLocal, "ask 0 5"}, {set, "", noLocal, "ask 0 65536"},
		{set, "", noThread, "ask 1 0"}, {set, "", noThread, "ask 6 99"}, {set, "", noThread, "ask 65536 65536"},
		{called, "local ref 1\n", 0, "ask 0 0"}, {called, "local int 12\n", 0, "ask 0 1"}, {called, none, 0, "ask 0 2"}, {called, "local int 1\n", 0, "ask 0 3"}, {called, "", noLocal, "ask 0 4"},
		{called, "", noFrame, "ask 1 0"}, {called, "", noFrame, "ask 1 99"}, {called, "", noThread, "ask 2 0"}, {small, "", noFrame, "ask 0 0"},
	} {
		text := script(x.program, "start 3 2 1 1", "turns 2000", x.order)
		want := x.want
		if x.e != api.OK {
			want = fmt.Sprintf("error %d line %d\n", x.e, 1+strings.Count(text, "\n"))
		}
		if got := after(console.Play(text), 3); got != want {
			t.Errorf("%s\n%s", text, got)
		}
	}
}

// Each order that fails, by its error; none behind it is executed.
func TestErrors(t *testing.T) {
	ok := script(small, "start 1 1 1 1", "turns 100")
	told := console.Play(ok)
	all := []string{"pick", "pick 0 c", "turns 1", "finish 5000", "out", "threads", "heap", "globals", "state", "events 1", "again", "ask 0 0"}
	for _, order := range all {
		failing(t, "", "", order, api.ErrState)
		failing(t, script(small), "program 0 1\n", order, api.ErrState)
		// A program is there anew, and no world of it yet.
		failing(t, ok+"\n"+script(small), told+"program 0 1\n", order, api.ErrState)
	}
	failing(t, "", "", "start 1 1 1 1", api.ErrState)
	failing(t, "", "", "start 0 0 0 0", api.ErrState)
	for _, start := range []string{"start 0 1 1 1", "start 33 1 1 1", "start 1 0 1 1", "start 1 7 1 1", "start 1 1 0 1", "start 1 1 17 1", "start 1 1 1 0", "start 1 1 1 65", "start 65536 65536 65536 65536"} {
		failing(t, ok, told, start, api.ErrArg)
	}
	failing(t, ok, told, "finish 0", api.ErrState)
	failing(t, ok, told, "finish 3", api.ErrState)
	failing(t, ok, told, "ask 0 0", api.ErrState)
	failing(t, ok, told, "ask 1 0", api.ErrArg)
	// The errors of a program's text come ahead of those of its types.
	for text, e := range map[string]api.Errno{
		"": api.ErrFunc, "\n": api.ErrFunc, "wrong\n": api.ErrSyntax, "# none\n": api.ErrSyntax, "func main\npoll\nreturn\n": api.ErrSyntax, " .\n": api.ErrSyntax, "class 1\n": api.ErrName, "class a\nclass a\n": api.ErrTwice, "func main\njump x\nend\n": api.ErrLabel,
		"func main\ncall no\nend\n": api.ErrFunc, "func main\nnew no\nend\n": api.ErrClass, "class a\nfunc main\nget a b\nend\n": api.ErrField, "class a" + strings.Repeat(" f:int", 2) + "\n": api.ErrTwice,
		"func main\nreturn\nend\n": api.ErrPoll, "func main\npoll\nend\n": api.ErrFall, "func main int\npoll\nreturn\nend\n": api.ErrEntry, "func main\npoll\ndrop\nreturn\nend\n": api.ErrDepth, "func main\npoll\nnull\nout\nreturn\nend\n": api.ErrType,
		"func main\npoll\nload 0\nreturn\nend\n": api.ErrLocal, "func main\npoll\nglobal 8\nreturn\nend\n": api.ErrGlobal, "func main\nend\n": api.ErrFall, "func main\nreturn\nreturn 1\nend\n": api.ErrSyntax,
	} {
		failing(t, ok, told, "program\n"+text+".", e)
		failing(t, "", "", "program\n"+text+".", e)
	}
}

// failing holds it that an order behind a script fails, and that what comes behind it makes no difference.
func failing(t *testing.T, text, report, order string, e api.Errno) {
	t.Helper()
	if text != "" {
		text += "\n\n# a remark\n"
	}
	want := fmt.Sprintf("%serror %d line %d\n", report, e, 1+strings.Count(text, "\n"))
	for _, more := range []string{"", "\n", "\nstate", "\n" + script(small, "start 1 1 1 1", "out"), "\nwrong", "\nprogram", "\nturns c"} {
		holds(t, text+order+more, want)
	}
}

// A line that is wrong is told behind what the orders ahead of it report, if none of them fails.
func TestWrongLines(t *testing.T) {
	ok := script(small, "start 1 1 1 1", "turns 100", "out")
	told := console.Play(ok)
	failing(t, "", "", "wrong", api.ErrOp)
	failing(t, ok, told, "wrong", api.ErrOp)
	failing(t, ok, told, ".", api.ErrOp)
	failing(t, ok, told, "turns", api.ErrSyntax)
	failing(t, ok, told, "turns 65537", api.ErrSyntax)
	failing(t, ok, told, "start 1 1 1", api.ErrSyntax)
	failing(t, ok, told, "program 1", api.ErrSyntax)
	holds(t, ok+"\nprogram", told+fmt.Sprintf("error 10 line %d\n", 3+strings.Count(ok, "\n")))
	holds(t, ok+"\nprogram\nfunc main\n", told+fmt.Sprintf("error 10 line %d\n", 5+strings.Count(ok, "\n")))
	holds(t, "", "")
	holds(t, "\n# nothing\n", "")
	// More than a text may have: nothing is executed.
	long := ok + strings.Repeat("\n", api.MaxText-len(ok))
	holds(t, long, told)
	holds(t, long+"\n", "error 3 line 0\n")
}

// A script may have several programs and worlds, one behind the other; what comes is that of the last one.
func TestSeveral(t *testing.T) {
	const other = "class a\nfunc main -> int\npoll\nconst 3\nreturn\nend\n"
	text := script(small, "start 1 1 1 1", "turns 100", "start 2 3 1 1", "state", "turns 100", "out") + "\n" + script(other, "start 1 1 1 1", "turns 100", "out", "threads", "events 99")
	var l []string
	for line := range strings.Lines(console.Play(text)) {
		if !strings.HasPrefix(line, "picks ") {
			l = append(l, line)
		}
	}
	want := "program 0 1\nstarted\nstarted\nstate over 0 threads 1 outputs 0\nout 0 7\nprogram 1 1\nstarted\nthread 0 ended 3 0\nevent 0 0 0 poll 0\nevent 0 0 1 const 0\nevent 0 0 2 return 0\n"
	if got := strings.Join(l, ""); got != want {
		t.Errorf("%s", got)
	}
}
