package world_test

import (
	"slices"
	"testing"

	"windrow/api"
	"windrow/collect"
	"windrow/layout"
	"windrow/world"
)

// bits: the addresses whose bits are set in the pages' words that begin at a cell.
func bits(plan layout.Plan, cells []uint64, at int) (l []int64) {
	for page := range plan.Pages {
		for i := range api.PageWords {
			if cells[at+page]>>i&1 == 1 {
				l = append(l, int64(plan.Addr(page, i)))
			}
		}
	}
	return l
}

// View, held against the cells.
func TestView(t *testing.T) {
	each(t, 40, func(t *testing.T, s *seed) {
		cfg := s.config()
		w := made(t, s.checked(t, cfg.Threads), cfg)
		order := s.script()
		plan := w.Plan()
		for range 2500 {
			who := order.pick(w.Count())
			order.note(who, w.Pick(who))
			v, e := w.View()
			cells := w.Image()
			if e != api.OK || len(v.Threads) != w.Count() || len(v.Globals) != api.Globals || !slices.Equal(v.Globals, v.Roots[:api.Globals]) {
				t.Fatalf("%+v, %d", v, e)
			}
			for i, ref := range v.Globals {
				if uint64(ref) != cells[plan.Global(i)] {
					t.Fatalf("%v", v.Globals)
				}
			}
			var all, marked []int64
			marks := bits(plan, cells, plan.Mark(0))
			for _, c := range v.Cells {
				all = append(all, c.Addr)
				if slices.Contains(marks, c.Addr) {
					marked = append(marked, c.Addr)
				}
			}
			if !slices.Equal(all, bits(plan, cells, plan.Alloc(0))) || !slices.Equal(v.Marked, marked) {
				t.Fatalf("%v; marked %v, not %v", all, v.Marked, marked)
			}
			for i := range plan.Threads {
				for at := cells[plan.Head(i)]; at < cells[plan.Tail(i)]; at++ {
					if !slices.Contains(v.Flight, int64(cells[plan.Slot(i, at)])) {
						t.Fatalf("ring %d, from %d on: %v", i, at, v.Flight)
					}
				}
			}
			if goes := cells[layout.Done]%2 == 1; goes != (v.Phase != collect.Idle) || int(cells[layout.Done]/2) != v.Cycles || int(cells[layout.Cycle]) != v.Cycle {
				t.Fatalf("%+v", v)
			}
		}
	})
}

// held makes picks of one till something is, or isn't, in flight.
func (w *watch) held(who int, ref int64, is bool) {
	w.Helper()
	for range 60 {
		if slices.Contains(w.view.Flight, ref) == is {
			return
		}
		w.pick(who)
	}
	w.Fatalf("%d in %v isn't %v", ref, w.view.Flight, is)
}

// View tells what threads and the collector have in hand, what waits in rings, and what is on the stack.
func TestFlight(t *testing.T) {
	cfg := world.Config{Pages: 3, Threads: 2, Ring: 4, Marks: 4}
	w := watched(t, checked(t, "class node a:ref\nfunc main\nlocals ref int\npoll\nnew node\nstore 0\n"+row+"spawn other\nstore 1\ncollect\npoll\npoll\npoll\nload 0\ndrop\nnull\nsetglobal 0\n"+rest+
		"func other -> int\nlocals ref\npoll\nnew node\nstore 0\nconst 0\njoin\nload 0\ndrop\nreturn\nend\n"), cfg)
	w.upTo(0, "collect")
	w.upTo(1, "const")
	for w.view.Threads[1].Status != api.Joining {
		w.pick(1)
	}
	w.shake(collect.Arming)
	w.upTo(0, "poll")
	w.shake(collect.Scanning)
	mine, other := w.view.Threads[0].Frames[0].Locals[0].N, w.view.Threads[1].Frames[0].Locals[0].N
	first := w.view.Globals[0]
	if len(w.view.Flight) != 0 {
		t.Fatal(w.view.Flight)
	}
	// The thread shades what it holds, which then waits in its ring.
	w.held(0, mine, true)
	w.upTo(0, "poll")
	if !slices.Equal(w.view.Flight, []int64{mine}) {
		t.Error(w.view.Flight, mine)
	}
	// The collector marks for the other one what that holds, and then what the global holds; both come onto its stack.
	w.held(world.Gatherer, other, true)
	w.shake(collect.Blending)
	if l := slices.Sorted(slices.Values(w.view.Flight)); !slices.Equal(l, slices.Sorted(slices.Values([]int64{mine, other, first}))) {
		t.Error(l, mine, other, first)
	}
	w.upTo(0, "poll")
	// It examines the last one on its stack first, which has another one.
	w.held(world.Gatherer, first, false)
	next := w.view.Cells[slices.IndexFunc(w.view.Cells, func(c api.Cell) bool { return c.Addr == first })].Words[0]
	if !slices.Contains(w.view.Flight, next) || !slices.Contains(w.view.Flight, other) {
		t.Error(w.view.Flight, next, other)
	}
	w.held(world.Gatherer, mine, false)
	w.complete()
	if len(w.view.Flight) != 0 {
		t.Error(w.view.Flight)
	}
	// What a thread overwrites amid a cycle is in its hands till it is shaded.
	w = watched(t, checked(t, "class node a:ref\nfunc main\npoll\n"+row+"collect\npoll\nnull\nsetglobal 0\n"+rest), cfg)
	w.upTo(0, "collect")
	w.shake(collect.Arming)
	w.upTo(0, "poll")
	first = w.view.Globals[0]
	for w.view.Globals[0] != 0 {
		w.pick(0)
	}
	if !slices.Equal(w.view.Flight, []int64{first}) || slices.Contains(w.view.Marked, first) {
		t.Error(w.view.Flight, w.view.Marked)
	}
	w.upTo(0, "poll")
	if !slices.Equal(w.view.Flight, []int64{first}) || !slices.Contains(w.view.Marked, first) {
		t.Error(w.view.Flight, w.view.Marked)
	}
}
