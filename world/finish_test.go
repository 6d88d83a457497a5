package world_test

import (
	"fmt"
	"slices"
	"sync/atomic"
	"testing"

	"windrow/api"
	"windrow/collect"
	"windrow/layout"
	"windrow/world"
)

// finished has a cycle completed that begins from now on; what isn't reached when no thread can go on is gone behind it.
func (w *watch) finished(most int) int {
	w.Helper()
	picks, cycles := w.w.Picks(), w.view.Cycles
	if w.view.Phase != collect.Idle {
		cycles++
	}
	n, e := w.w.Finish(most)
	w.catchUp()
	if e != api.OK || w.w.Picks() != picks+n || w.view.Cycles != cycles+1 || w.view.Phase != collect.Idle || w.view.Cycle != w.view.Cycles {
		w.Fatalf("%d picks, %d, error %d: %d cycles, not %d", n, w.w.Picks()-picks, e, w.view.Cycles, cycles+1)
	}
	return n
}

// tidy: is all that is allocated reached?
func (w *watch) tidy() {
	w.Helper()
	for _, c := range w.view.Cells {
		if !w.reached[c.Addr] {
			w.Errorf("%+v is left", c)
		}
	}
	if len(w.view.Flight) != 0 || len(w.view.Marked) != 0 || w.cell(layout.Done) != 2*uint64(w.view.Cycles) {
		w.Errorf("%+v", w.view)
	}
}

// Finish: as many picks as it needs, and no more; with fewer there is no cycle.
func TestFinishPicks(t *testing.T) {
	each(t, 40, func(t *testing.T, s *seed) {
		cfg := s.config()
		c := s.checked(t, cfg.Threads)
		ahead := s.below(3000)
		start := func() *watch {
			w := watched(t, c, cfg)
			w.w.Turns(ahead)
			w.catchUp()
			return w
		}
		w := start()
		if _, e := w.w.Finish(0); e != api.ErrState || w.w.Picks() > ahead {
			t.Fatal(e)
		}
		picks := w.finished(api.MaxPicks)
		other := start()
		if got, e := other.w.Finish(picks); got != picks || e != api.OK {
			t.Fatal(got, e, picks)
		}
		alike(t, w.w, other.w)
		less := start()
		before := less.w.Picks()
		if got, e := less.w.Finish(picks - 1); got != 0 || e != api.ErrState || less.w.Picks() != before+picks-1 {
			t.Fatal(got, e, picks)
		}
		less.catchUp()
		less.same()
	})
}

// Finish: the threads are picked one behind the other, and then the collector.
func TestFinishOrder(t *testing.T) {
	for threads := 1; threads <= 6; threads++ {
		text := "func main\npoll\n"
		for range threads - 1 {
			text += "spawn other\ndrop\n"
		}
		w := made(t, checked(t, text+"more:\npoll\njump more\nend\nfunc other\npoll\nmore:\npoll\njump more\nend\n"), world.Config{Pages: 1, Threads: min(6, threads+1), Ring: 1, Marks: 1, Keep: true})
		w.Turns(100 * threads)
		events, log, picks := len(w.Events()), len(w.Log()), w.Picks()
		n, e := w.Finish(api.MaxPicks)
		if e != api.OK {
			t.Fatal(e)
		}
		did := map[int]int{}
		for _, event := range w.Events()[events:] {
			did[event.Thread]++
			if (event.At-picks)%(threads+1) != event.Thread {
				t.Fatalf("%+v, %d picks ahead", event, picks)
			}
		}
		for i := range threads {
			if did[i] < 20 {
				t.Error(did)
			}
		}
		steps := 0
		for _, made := range w.Log()[log:] {
			if made.Who == api.CollectorID {
				steps++
			}
		}
		if n%(threads+1) != 0 || steps != n/(threads+1) {
			t.Error(n, steps)
		}
	}
}

// A cycle that goes on already is not the one that is wished.
func TestFinishAnother(t *testing.T) {
	c := checked(t, "class a r:ref\nfunc main\nlocals ref\npoll\nnew a\nstore 0\ncollect\npoll\npoll\npoll\npoll\npoll\npoll\npoll\nnull\nstore 0\nconst 0\njoin\ndrop\nreturn\nend\n")
	phases := map[int]bool{}
	for ahead := range 200 {
		w := watched(t, c, tight(2, 1))
		for n := range 2 * ahead {
			w.pick([]int{0, world.Gatherer}[n%2])
		}
		phases[w.view.Phase] = true
		w.finished(api.MaxPicks)
		w.finished(api.MaxPicks)
		w.tidy()
		if len(w.view.Cells) != 0 || w.w.Freed() != 1 || w.view.Threads[0].Status != api.Joining {
			t.Fatalf("%+v", w.view)
		}
	}
	for phase := range 10 {
		if !phases[phase] {
			t.Errorf("phase %d was not tried", phase)
		}
	}
}

// stuck makes picks, of the threads and seldom of the collector, till no thread does anything; will it ever?
func (s *seed) stuck(w *world.World, most int) bool {
	for range most {
		moved := false
		for i := range w.Count() {
			moved = w.Pick(i).Moved || moved
		}
		if !moved {
			return true
		}
		for range s.below(2 * w.Count()) {
			w.Pick(world.Gatherer)
		}
	}
	return false
}

// P21.3, P21.4: when no thread can go on, a cycle is completed within the picks that are promised, and nothing is left that isn't reached.
func TestFinishStuck(t *testing.T) {
	var ended, midway, waiting atomic.Int64
	each(t, 500, func(t *testing.T, s *seed) {
		cfg := s.config()
		w := watched(t, s.checked(t, cfg.Threads), cfg)
		if !s.stuck(w.w, 6000) {
			return
		}
		w.catchUp()
		ended.Add(1)
		if w.view.Phase != collect.Idle {
			midway.Add(1)
		}
		if !w.w.Over() {
			waiting.Add(1)
		}
		bound := 2 * (w.w.Count() + 1) * (3000 + (2+32*cfg.Pages)*200*cfg.Pages)
		w.finished(min(bound, api.MaxPicks))
		w.tidy()
		w.same()
	})
	if ended.Load() < 200 || midway.Load() < 50 || waiting.Load() < 10 {
		t.Error("hardly tried", ended.Load(), midway.Load(), waiting.Load())
	}
}

// P21.3: of all kinds of objects, those go that aren't reached, rings of them too, and the others stay.
func TestFinishFrees(t *testing.T) {
	text := "class node a:ref b:ref\nclass leaf n:int\nfunc main\nlocals ref ref int\npoll\n" +
		// A ring of two nodes that nothing holds, and one that a global holds.
		"new node\nstore 0\nnew node\nstore 1\nload 0\nload 1\nput node a\nload 1\nload 0\nput node b\n" +
		"new node\nstore 0\nnew node\nstore 1\nload 0\nload 1\nput node a\nload 1\nload 0\nput node b\nload 1\nsetglobal 7\n" +
		"const 200\nnewrefs\ndrop\nconst 70\nnewrefs\ndup\nsetglobal 0\nconst 69\nconst 40\nnewints\nsetref\nnew leaf\ndrop\nconst 0\nnewints\nsetglobal 1\n" +
		"null\nstore 0\nnull\nstore 1\n"
	for _, end := range []string{"return\nend\n", "null\nget leaf n\ndrop\nreturn\nend\n", "const 0\njoin\ndrop\nreturn\nend\n"} {
		for _, turns := range []int{0, 1, 3} {
			w := watched(t, checked(t, text+end), tight(12, 1))
			for n := 0; n < 1500; n++ {
				w.pick(0)
				for range turns {
					w.pick(world.Gatherer)
				}
			}
			if len(w.view.Cells) != 9 {
				t.Fatalf("%+v", w.view)
			}
			w.finished(api.MaxPicks)
			w.tidy()
			if len(w.view.Cells) != 5 || w.w.Freed() != 4 || slices.Contains(w.view.Roots[:2], 0) {
				t.Errorf("%+v", w.view)
			}
			before := w.view.Cells
			w.finished(api.MaxPicks)
			if !slices.EqualFunc(before, w.view.Cells, func(c, d api.Cell) bool { return fmt.Sprint(c) == fmt.Sprint(d) }) || w.w.Freed() != 4 {
				t.Errorf("%+v", w.view)
			}
		}
	}
}

// P21.4: the longest way of marking: each node but the last one has two others, of which one finds no room.
func TestFinishLong(t *testing.T) {
	for _, pages := range []int{1, 2, 4} {
		// Each new node comes in front, so that its address is above that of the next one.
		text := "class node a:ref b:ref\nfunc main\nlocals int\npoll\nconst " + fmt.Sprint(10*pages-1) + "\nstore 0\nmore:\npoll\n" +
			"new node\ndup\nglobal 0\nput node b\ndup\nnew node\nput node a\nsetglobal 0\nload 0\nconst 1\nsub\ndup\nstore 0\njumpif more\nreturn\nend\n"
		for _, text := range []string{text, swapped(text)} {
			w := watched(t, checked(t, text), tight(pages, 1))
			for !w.w.Over() {
				w.pick(0)
			}
			if w.traps[0] != len(w.events) || len(w.view.Cells) != 20*pages-2 {
				t.Fatalf("%v, %d objects", w.traps, len(w.view.Cells))
			}
			w.finished(min(api.MaxPicks, 4*(3000+(2+32*pages)*200*pages)))
			if w.tidy(); len(w.view.Cells) != 20*pages-2 {
				t.Errorf("%d objects are left", len(w.view.Cells))
			}
		}
	}
}

// swapped: the same program, with one field in the other one's place.
func swapped(text string) string {
	l := []byte(text)
	for i := range len(l) - 9 {
		if at := string(l[i : i+9]); at == "put node " {
			l[i+9] ^= 'a' ^ 'b'
		}
	}
	return string(l)
}
