package collect_test

import (
	"testing"

	"windrow/api"
	"windrow/code"
	"windrow/collect"
	"windrow/layout"
	"windrow/mutator"
)

// upTo makes steps of a thread until an instruction of that name takes effect.
func (w *watch) upTo(who int, name string) api.Event {
	w.t.Helper()
	for range 200 {
		if turn := w.step(who); turn.Done && turn.Event.Op == code.Find(name) {
			return turn.Event
		}
	}
	w.t.Fatalf("thread %d: no %s: %+v", who, name, w.threads[who].View())
	return api.Event{}
}

// gather makes so many steps of the collector.
func (w *watch) gather(n int) {
	w.t.Helper()
	for range n {
		w.step(gatherer)
	}
}

// complete makes steps of all until the cycle that goes on is completed.
func (w *watch) complete() {
	w.t.Helper()
	cycles := w.c.Cycles()
	for range 3000 {
		if w.c.Cycles() > cycles {
			return
		}
		for i := range len(w.threads) {
			w.step(i)
		}
		w.gather(3)
	}
	w.t.Fatalf("the cycle doesn't end: phase %d", w.c.Phase())
}

// watched: a program, a heap of so many pages, and rings and a stack of one place.
func watched(t *testing.T, pages, threads int, text string) *watch {
	t.Helper()
	return newWatch(build(t, checked(t, text), planned(t, pages, threads, 1), 1))
}

// A thread that is there already must respond even if one ahead of it isn't there yet: it has what the one that began it has no longer.
func TestSpawnRace(t *testing.T) {
	loop := "more:\npoll\njump more\nend\n"
	w := watched(t, 2, 4, "class node a:ref\n"+
		"func main\nlocals int\npoll\nspawn second\nstore 0\npoll\npoll\nspawn third\nstore 0\n"+loop+
		"func second\nlocals ref int\npoll\nnew node\nstore 0\npoll\nload 0\nspawn fourth\nstore 1\nnull\nstore 0\npoll\n"+loop+
		"func third\npoll\n"+loop+
		"func fourth ref\npoll\n"+loop)
	w.upTo(0, "spawn")
	w.upTo(0, "store")
	made := w.upTo(1, "new").Addr
	w.upTo(1, "store")
	w.a.Poke(layout.Request, 1)
	w.gather(20)
	w.upTo(0, "poll")
	w.upTo(1, "poll")
	w.gather(20)
	if w.c.Phase() != collect.Scanning {
		t.Fatal(w.c.Phase())
	}
	// The first thread has responded, and its new one isn't there yet; the second one's is, before the second one responds.
	w.upTo(0, "poll")
	w.upTo(0, "spawn")
	w.upTo(1, "spawn")
	w.upTo(1, "poll")
	if len(w.threads) != 4 || w.peek(w.plan.Status(2)) != mutator.Absent || w.peek(w.plan.Status(3)) != mutator.Runs || w.threads[1].Roots()[0] != 0 {
		t.Fatal("it came otherwise")
	}
	w.gather(200)
	w.complete()
	if !w.reached[made] {
		t.Error("the fourth thread has lost its object")
	}
	w.a.Poke(layout.Request, 1)
	w.gather(10)
	w.complete()
}

// A thread that has responded, and then waits for another one, is not served once more: its cycle goes up by one.
func TestServedOnceRace(t *testing.T) {
	w := watched(t, 2, 2, "class node a:ref\nfunc main\nlocals int\npoll\nspawn work\nstore 0\npoll\npoll\npoll\npoll\npoll\npoll\nload 0\njoin\nout\nreturn\nend\n"+
		"func work -> int\npoll\nmore:\npoll\nnew node\ndrop\nconst 1\njumpif more\nconst 3\nreturn\nend\n")
	w.upTo(0, "store")
	w.a.Poke(layout.Request, 1)
	for n, phase := range handshakes() {
		for before := w.peek(layout.Epoch); w.peek(layout.Epoch) == before; {
			w.step(gatherer)
		}
		if w.upTo(0, "poll"); w.c.Phase() != phase || w.threads[0].Seen() != w.peek(layout.Epoch) {
			t.Fatal(n, w.c.Phase(), w.threads[0].Seen())
		}
		if phase == collect.Closing {
			break
		}
		w.upTo(1, "poll")
	}
	for w.peek(w.plan.Status(0)) != mutator.Parked {
		w.step(0)
	}
	if w.threads[0].Cycle() != 1 || w.threads[1].Cycle() != 0 {
		t.Fatal(w.threads[0].Cycle(), w.threads[1].Cycle())
	}
	w.complete()
	if w.threads[0].Cycle() != 1 || w.threads[1].Cycle() != 1 || w.c.Cycle() != 1 {
		t.Error(w.threads[0].Cycle(), w.threads[1].Cycle(), w.c.Cycle())
	}
	w.a.Poke(layout.Request, 1)
	w.gather(10)
	w.complete()
	if w.threads[0].Cycle() != 2 || w.threads[1].Cycle() != 2 {
		t.Error(w.threads[0].Cycle(), w.threads[1].Cycle())
	}
}

// What a thread takes out of an object that isn't examined yet, and has nowhere but in its frames, is shaded by it.
func TestTakenOut(t *testing.T) {
	for _, take := range []string{
		"global 0\nget node a\nstore 0\nglobal 0\nnull\nput node a",
		"global 0\nget node a\nstore 0\nglobal 0\nload 0\nnull\ncas node a\ndrop",
		"global 1\nconst 2\nrefat\nstore 0\nglobal 1\nconst 2\nnull\nsetref",
		"global 2\nstore 0\nnull\nsetglobal 2",
	} {
		w := watched(t, 3, 1, "class node a:ref\nfunc main\nlocals ref ref\npoll\nnew node\nsetglobal 0\nconst 3\nnewrefs\nsetglobal 1\nglobal 0\nnew node\nput node a\n"+
			"global 1\nconst 2\nnew node\nsetref\nnew node\nsetglobal 2\npoll\npoll\n"+take+"\nmore:\npoll\njump more\nend\n")
		for w.threads[0].View().Frames[0].Pc < 15 {
			w.step(0)
		}
		w.a.Poke(layout.Request, 1)
		w.gather(20)
		w.upTo(0, "poll")
		w.gather(20)
		w.upTo(0, "poll")
		// It has been scanned, and has no references; none is marked yet.
		if w.c.Phase() != collect.Scanning || len(w.threads[0].Roots()) != 0 {
			t.Fatal(w.c.Phase(), w.threads[0].Roots())
		}
		for w.threads[0].View().Frames[0].Pc < len(w.program.Program().Funcs[0].Code)-2 {
			w.step(0)
		}
		held := w.threads[0].Roots()[0]
		w.complete()
		if held == 0 || !w.reached[held] {
			t.Errorf("%q: it has lost what it took", take)
		}
	}
}

// Chapter 21's examples 2 and 3, with turns of a thread and the collector.
func TestExamples(t *testing.T) {
	for _, x := range []struct {
		text   string
		turns  int
		over   bool
		trap   int
		cycles int
	}{
		{"func main\nlocals int\npoll\nconst 40\nstore 0\nmore:\npoll\nconst 3\nnewints\ndrop\nload 0\nconst 1\nsub\ndup\nstore 0\njumpif more\nconst 7\nout\nreturn\nend", 19999, true, 0, 1},
		{"class a r:ref\nfunc main\nlocals ref\npoll\nmore:\npoll\nnew a\nstore 0\nload 0\nglobal 0\nput a r\nload 0\nsetglobal 0\njump more\nend", 6000, true, api.TrapMemory, 1},
		{"class a r:ref\nfunc main\npoll\nmore:\npoll\nnew a\ndrop\njump more\nend", 6000, false, 0, 2},
	} {
		w := watched(t, 1, 1, x.text)
		for n := 0; n < x.turns && !w.over(); n++ {
			w.step([]int{0, gatherer}[n%2])
		}
		if w.over() != x.over || w.threads[0].View().Trap != x.trap || w.c.Cycles() < x.cycles {
			t.Errorf("%v, %+v, %d cycles", w.over(), w.threads[0].View(), w.c.Cycles())
		}
		if x.trap == 0 && x.over && (len(w.outputs) != 1 || w.outputs[0] != api.Output{N: 7}) {
			t.Errorf("%+v", w.outputs)
		}
	}
}
