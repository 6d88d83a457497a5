package world_test

import (
	"strconv"
	"testing"

	"windrow/api"
	"windrow/collect"
	"windrow/world"
)

// grower makes a list without an end.
const grower = "class a r:ref\nfunc main\nlocals ref\npoll\nnull\nstore 0\ncollect\nmore:\npoll\nnew a\ndup\nload 0\nput a r\nstore 0\njump more\nend\n"

// hungered: makes picks by a script that goes round, till a thread was stopped for lack of memory.
func (w *watch) hungered(round []int) {
	w.Helper()
	for n := 0; w.traps[api.TrapMemory] == 0; n++ {
		if n > 30000 {
			w.Fatalf("no trap: %+v", w.view.Threads)
		}
		w.pick(round[n%len(round)])
	}
}

// P21.5: a list that grows without an end ends with TrapMemory, behind a whole cycle that began behind the first attempt; whether or not another one went on by then, and whoever makes the collector's steps.
func TestGrower(t *testing.T) {
	t.Parallel()
	c := checked(t, grower)
	idle, amid := 0, 0
	for pages := 1; pages <= 2; pages++ {
		for _, round := range [][]int{{0}, {0, 6}, {0, 0, 0, 0, 0, 0, 0, 0, 0, 6}, {0, 6, 6, 6, 6, 6, 6}, {6, 0, 0, 0}} {
			for ahead := 0; ahead < 120; ahead += 29 {
				w := watched(t, c, tight(pages, 1))
				w.upTo(0, "collect")
				w.gather(ahead)
				for w.view.Threads[0].Status != api.Wanting {
					w.pick(round[w.w.Picks()%len(round)])
				}
				if w.view.Phase == collect.Idle {
					idle++
				} else {
					amid++
				}
				cycles := w.view.Cycles
				w.hungered(round)
				if w.view.Cycles < cycles+1 || len(w.view.Cells) != 32*pages {
					t.Fatalf("%d cycles, %+v", w.view.Cycles-cycles, w.view)
				}
				for !w.w.Over() {
					w.pick(0)
				}
				w.finished(api.MaxPicks)
				if w.tidy(); len(w.view.Cells) != 0 {
					t.Fatalf("%+v", w.view)
				}
			}
		}
	}
	if idle < 10 || amid < 10 {
		t.Error("hardly tried", idle, amid)
	}
}

// P21.5: what a thread that was stopped had is free for the others behind the next cycle.
func TestGrowerBeside(t *testing.T) {
	t.Parallel()
	text := "class a r:ref\nfunc main\nlocals int\npoll\nconst 3\nnewints\nsetglobal 0\nspawn grow\ndrop\nconst 90\nstore 0\nmore:\npoll\nconst 3\nnewints\ndrop\nload 0\nconst 1\nsub\ndup\nstore 0\njumpif more\nconst 7\nout\nreturn\nend\n" +
		"func grow\nlocals ref\npoll\nnull\nstore 0\nmore:\npoll\nnew a\ndup\nload 0\nput a r\nstore 0\njump more\nend\n"
	for _, round := range [][]int{{0, 1, 6}, {0, 1}, {1, 1, 1, 1, 0, 6}, {0, 6, 0, 1, 6, 6}} {
		for pages := 2; pages <= 5; pages++ {
			w := watched(t, checked(t, text), tight(pages, 2))
			// An array that a global holds keeps a page for arrays of its size.
			w.upTo(0, "spawn")
			w.hungered(round)
			if w.view.Threads[1].Trap != api.TrapMemory {
				t.Fatalf("%+v", w.view.Threads)
			}
			for n := 0; n < 20000 && !w.w.Over(); n++ {
				w.pick(round[n%len(round)])
			}
			w.same()
			if v := w.view.Threads[0]; v.Status != api.Ended || len(w.w.Outputs()) != 1 {
				t.Errorf("%v %d: %+v", round, pages, v)
			}
			w.finished(api.MaxPicks)
			w.tidy()
		}
	}
}

// An object that needs more pages than there are is waited for as well; and one that finds pages behind the cycle is made.
func TestLargeHunger(t *testing.T) {
	t.Parallel()
	for _, x := range []struct {
		pages, length int
		trap          int
	}{{1, 63, 0}, {1, 64, api.TrapMemory}, {2, 127, 0}, {2, 128, api.TrapMemory}, {3, 255, api.TrapMemory}, {4, 255, 0}, {32, 255, 0}} {
		text := "func main\nlocals int\npoll\nconst 40\nstore 0\nmore:\npoll\nconst " + strconv.Itoa(x.length) + "\nnewrefs\ndrop\nload 0\nconst 1\nsub\ndup\nstore 0\njumpif more\nreturn\nend\n"
		for _, round := range [][]int{{0}, {0, world.Gatherer}} {
			w := watched(t, checked(t, text), tight(x.pages, 1))
			for n := 0; n < 60000 && !w.w.Over(); n++ {
				w.pick(round[n%len(round)])
			}
			if w.view.Threads[0].Trap != x.trap || x.pages < 32 && w.view.Cycles == 0 {
				t.Errorf("%+v: %+v", x, w.view)
			}
			w.finished(api.MaxPicks)
			if w.tidy(); len(w.view.Cells) != 0 {
				t.Errorf("%+v", w.view.Cells)
			}
		}
	}
}

// A thread that waits for memory makes the collector's steps in its own picks, through the collector's port.
func TestHelps(t *testing.T) {
	cfg := tight(1, 1)
	cfg.Keep = true
	w := made(t, checked(t, "class a r:ref\nfunc main\npoll\nmore:\npoll\nnew a\ndrop\njump more\nend\n"), cfg)
	var turns []world.Turn // those with an access
	var hungry []bool
	for range 20000 {
		v, _ := w.View()
		if turn := w.Pick(0); turn.Access {
			turns = append(turns, turn)
			hungry = append(hungry, v.Threads[0].Status == api.Wanting)
		}
	}
	log := w.Log()
	if len(log) != len(turns) {
		t.Fatal(len(log), len(turns))
	}
	helped := 0
	for i, made := range log {
		if made.Who == api.CollectorID {
			helped++
		}
		if made.Who != 0 && (made.Who != api.CollectorID || !turns[i].Moved || turns[i].Done || !hungry[i]) {
			t.Fatalf("%+v: %+v", made, turns[i])
		}
	}
	v, _ := w.View()
	if v.Cycles < 3 || w.Freed() < 32 || v.Threads[0].Trap != 0 {
		t.Errorf("%d steps, %+v", helped, v)
	}
}
