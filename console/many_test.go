package console_test

import (
	"fmt"
	"strings"
	"testing"

	"windrow/api"
	"windrow/console"
	"windrow/world"
)

// orders: some without a pattern, mostly of a world that is there, and seldom one that fails.
func (s *seed) orders(n, threads int) []string {
	var l []string
	for range n {
		switch s.below(14) {
		case 0, 1, 2:
			var picks strings.Builder
			for range s.below(60) {
				picks.WriteString(s.one(" c", " c", fmt.Sprint(" ", s.below(threads)), fmt.Sprint(" ", s.below(threads)), " 0", fmt.Sprint(" ", s.below(9))))
			}
			l = append(l, "pick"+picks.String())
		case 3, 4, 5:
			l = append(l, fmt.Sprint("turns ", s.below(400)))
		case 6:
			l = append(l, "finish 65536")
		case 7:
			l = append(l, s.one("out", "threads"), s.one("globals", "state"))
		case 8:
			l = append(l, fmt.Sprint("events ", s.below(30)))
		case 9:
			l = append(l, "# a remark", "", " again")
		case 10:
			l = append(l, fmt.Sprintf("ask 0 %d", s.below(5)))
		case 11:
			if s.below(12) == 0 {
				l = append(l, s.one("finish 5", "ask 5 0", "ask 0 5", "ask 1 1", "wrong", "turns", "start 0 1 1 1", "program\n.", "program", "."))
			}
		default:
			l = append(l, "heap")
		}
	}
	return l
}

// script: one without a pattern, sometimes of two programs.
func (s *seed) script() string {
	threads := 1 + s.below(4)
	text := script(s.program(s.below(threads)), fmt.Sprintf("start %d %d %d %d", 1+s.below(6), threads, 1+s.below(3), 1+s.below(3))) + "\n"
	text += strings.Join(s.orders(5+s.below(25), threads), "\n")
	if s.below(6) == 0 {
		text += "\n" + script(s.program(0), "start 2 1 1 1") + "\n" + strings.Join(s.orders(10, 1), "\n")
	}
	return text
}

// P23.1, P23.2, P23.4: scripts without a pattern report what the chapter's table says, and each beginning of one that ends with an order the first lines of that.
func TestMany(t *testing.T) {
	kinds, faults := map[int]int{}, 0
	for i := range 400 {
		s := seed(2310 + i)
		text := s.script()
		m := played(text)
		whole := strings.Join(m.reports, "")
		holds(t, text, whole)
		for kind, n := range m.kinds {
			kinds[kind] += n
		}
		if m.fault != api.OK {
			faults++
		}
		if i%4 == 0 {
			cut(t, text, m)
		}
	}
	for kind := console.Program; kind <= console.Ask; kind++ {
		if kinds[kind] < 100 {
			t.Errorf("orders of kind %d were hardly tried: %v", kind, kinds)
		}
	}
	if faults < 20 || faults > 200 {
		t.Errorf("%d scripts fail", faults)
	}
}

// P23.1: whatever a text is, its report is what the chapter's table says, the same each time.
func TestAnything(t *testing.T) {
	errors := map[api.Errno]int{}
	for i := range 10000 {
		s := seed(23200 + i)
		text := s.bytes()
		m := played(text)
		errors[m.fault]++
		holds(t, text, strings.Join(m.reports, ""))
		holds(t, text, strings.Join(m.reports, ""))
	}
	for _, e := range []api.Errno{api.OK, api.ErrState, api.ErrOp, api.ErrSyntax, api.ErrEnds} {
		if errors[e] < 50 {
			t.Errorf("hardly tried: %v", errors)
		}
	}
}

// cut holds it that a script that ends behind an order reports what comes first in the report of the whole.
func cut(t *testing.T, text string, m *model) {
	t.Helper()
	orders, _, _ := console.Parse(text)
	lines := strings.Split(text, "\n")
	report := ""
	for n, o := range orders {
		end := o.Line
		if o.Kind == console.Program {
			end += strings.Count("\n"+o.Text, "\n") + 1
			if o.Text == "" && lines[o.Line] == "." {
				end--
			}
		}
		if n < len(m.reports) {
			report += m.reports[n]
		}
		begin := strings.Join(lines[:end], "\n")
		holds(t, begin, report)
		holds(t, begin+"\n", report)
	}
}

// P23.2: again tells the same, whatever has happened: at each place of a script.
func TestAgain(t *testing.T) {
	traps := map[string]int{}
	for i := range 60 {
		s := seed(2360 + i)
		threads := 1 + s.below(4)
		text := script(s.program(s.below(threads)), fmt.Sprintf("start %d %d 1 1", 1+s.below(9), threads))
		for range 25 {
			text += fmt.Sprintf("\nturns %d\nagain\nfinish 65536\nagain\npick c 0 0 0 c 1 2 1 c\nagain", s.below(200))
		}
		text += "\nthreads"
		same := 0
		for line := range strings.Lines(console.Play(text)) {
			words := strings.Fields(line)
			switch words[0] {
			case "again":
				if words[1] != "same" {
					t.Fatalf("%s\n%s", text, line)
				}
				same++
			case "thread":
				traps[words[4]]++
			}
		}
		if same != 75 {
			t.Fatalf("%s\n%d times alone", text, same)
		}
	}
	if traps["0"] < 30 || traps["7"] < 5 || len(traps) < 6 {
		t.Errorf("hardly tried: %v", traps)
	}
}

// P23.3: what a thread alone has come to in the end doesn't hang on the pages, the rings and the stack.
func TestSizes(t *testing.T) {
	told, cycles := 0, 0
	for i := range 60 {
		s := seed(2420 + i)
		program, threads := s.program(0), 1+s.below(6)
		want, tried := "", 0
		for n := range 12 {
			pages := []int{1, 2, 3, 4, 5, 6, 8, 11, 16, 32, 32, 7}[n]
			text := script(program, fmt.Sprintf("start %d %d %d %d", pages, threads, 1+s.below(16), 1+s.below(64)), "turns 65536", "state", "out", "threads", "heap", "globals", "events 65536", "again")
			report := console.Play(text)
			got := after(report, 3)
			// It may wait for itself, begin another one, or have no room.
			if !strings.HasPrefix(got, "state over 1 threads 1 ") || strings.Contains(got, "\nthread 0 trapped 0 7\n") {
				continue
			}
			if tried++; tried == 1 {
				want = got
			}
			if got != want {
				t.Fatalf("%s\nreports\n%s\nnot\n%s", text, got, want)
			}
			if v, _ := played(text).w.View(); v.Cycles > 0 {
				cycles++
			}
		}
		if tried > 6 {
			told++
		}
	}
	if told < 40 || cycles < 100 {
		t.Errorf("hardly tried: %d programs, %d worlds with cycles", told, cycles)
	}
}

// heap: amid a sweep, what isn't reached may refer to what is gone by now. What is reached is told all the same, after each step.
func TestHeapSweep(t *testing.T) {
	const row = "%s:\npoll\nnew node\ndup\nload 0\nput node a\ndup\nload 1\nput node n\nstore 0\nload 1\nconst 1\nsub\ndup\nstore 1\njumpif %s\n"
	program := "class node a:ref n:int\nfunc main\nlocals ref int\npoll\nnull\nstore 0\nconst 300\nstore 1\n" + fmt.Sprintf(row, "drop", "drop") +
		"null\nstore 0\nconst 70\nstore 1\n" + fmt.Sprintf(row, "keep", "keep") + "load 0\nsetglobal 5\ncollect\nwait:\npoll\njump wait\nend\n"
	want := "heap 70\n"
	for n := range 69 {
		want += fmt.Sprintf("object %d node %d %d\n", n+1, n+2, n+1)
	}
	want += "object 70 node 0 70\n"
	begin := script(program, "start 32 1 2 3", "pick"+strings.Repeat(" 0", 20000))
	const steps = 1500
	text := begin + strings.Repeat("\npick c 0\nheap", steps)
	w := played(begin).w
	dangling := 0
	done := console.Play(begin)
	var report strings.Builder
	report.WriteString(done)
	for range steps {
		n, _ := w.Run([]int{world.Gatherer, 0})
		fmt.Fprintf(&report, "done %d\n%s", n, want)
		v, e := w.View()
		if e != api.OK {
			t.Fatal(e)
		}
		dangling += lost(v)
	}
	if got := console.Play(text); got != report.String() {
		t.Errorf("%.2000s", got)
	}
	if dangling == 0 || w.Freed() != 300 {
		t.Errorf("%d references to what is gone, %d objects freed", dangling, w.Freed())
	}
}

// lost: how many objects refer to one that there isn't.
func lost(v world.View) int {
	there := map[int64]bool{0: true}
	for _, c := range v.Cells {
		there[c.Addr] = true
	}
	n := 0
	for _, c := range v.Cells {
		if c.Kind == api.Fields && !there[c.Words[0]] {
			n++
		}
	}
	return n
}
