package mutator_test

import (
	"slices"
	"testing"

	"windrow/api"
	"windrow/header"
	"windrow/layout"
	"windrow/mutator"
	"windrow/tlab"
)

// filler fills its only page with two arrays, the first of which a global holds, and then wants a third one.
const filler = "const 31\nnewrefs\nsetglobal 0\nconst 31\nnewrefs\nstore 0\nconst 20\nnewints\nisnull\nout\nnew box\ndrop"

// starving: a thread that waits for memory, and the first accesses since.
func starving(t *testing.T, done uint64) *stand {
	t.Helper()
	s := stood(t, planned(t, 1, 1, 4), 0, text(filler))
	s.upTo("store")
	s.upTo("const")
	s.poke(layout.Done, done)
	for s.m.View().Status != api.Wanting {
		if turn := s.step(); !turn.Moved || turn.Done {
			t.Fatalf("%+v", turn)
		}
		if s.peek(layout.Request) != 0 {
			t.Fatal("too early")
		}
	}
	return s
}

// starve makes steps that no instruction may end.
func (s *stand) starve(n int) {
	s.Helper()
	for range n {
		before := s.h.helped
		turn := s.step()
		if !turn.Moved || turn.Done || s.m.View().Status != api.Wanting {
			s.Fatalf("%+v: %+v", turn, s.m.View())
		}
		if s.h.helped > before+1 || s.h.helped > before && len(s.log) > 0 {
			s.Fatalf("%d steps of the collector, with %+v", s.h.helped-before, s.log)
		}
	}
}

// The thread waits until one more cycle is completed, or two more if one is in progress; meanwhile it helps, and asks again where no cycle goes on.
func TestWaits(t *testing.T) {
	for _, x := range []struct{ done, last, goal uint64 }{{0, 1, 2}, {2, 3, 4}, {1, 3, 4}, {5, 7, 8}, {10, 11, 12}, {11, 13, 14}, {10, 11, 20}} {
		s := starving(t, x.done)
		s.starve(1)
		if s.log[0] != (api.Access{Kind: api.AccStore, At: layout.Request, Put: 1, Left: 1}) {
			t.Errorf("%+v", s.log)
		}
		s.starve(30)
		if s.h.helped < 5 || s.peek(layout.Request) != 1 {
			t.Error("it didn't help", s.h.helped)
		}
		for done := x.done; done <= x.last; done++ {
			s.poke(layout.Done, done)
			s.starve(10)
			s.poke(layout.Request, 0)
			s.starve(12)
			if got := s.peek(layout.Request); got != 1-done%2 {
				t.Errorf("Done %d: Request %d", done, got)
			}
		}
		s.poke(layout.Done, x.goal)
		event, _ := s.upTo("newints")
		if v := s.m.View(); event.Trap != api.TrapMemory || v.Status != api.Trapped || v.Trap != api.TrapMemory || event.Addr != 0 {
			t.Errorf("%+v, %+v", event, v)
		}
		if s.finish(); s.peek(s.plan.Result(0)) != 0 || len(s.h.told) != 0 {
			t.Error(s.h.told)
		}
	}
}

// If the cycle made room, the object is made; the next one that finds none waits anew.
func TestSecondAttempt(t *testing.T) {
	s := starving(t, 0)
	s.starve(10)
	// A handshake Off, and then a sweep of all.
	s.shake(8 + mutator.Off)
	s.starve(10)
	if s.m.Cycle() != 1 || s.peek(s.plan.Ack(0)) != 8+mutator.Off {
		t.Fatal("it doesn't respond")
	}
	s.poke(s.plan.Entry(0), 0)
	s.poke(s.plan.Alloc(0), 0)
	s.poke(layout.Done, 2)
	event, _ := s.upTo("newints")
	entry, _ := header.DecodeEntry(s.peek(s.plan.Entry(0)))
	if event.Trap != 0 || event.Addr != int64(s.plan.Base()) || entry != (header.Entry{Kind: header.Small, Class: 7, State: header.Owned, Cycle: 1}) {
		t.Errorf("%+v, %+v", event, entry)
	}
	if v := s.m.View(); v.Status != api.Running || s.top().N != event.Addr {
		t.Errorf("%+v", v)
	}
	// The box needs another page.
	for n := 0; n < most && s.m.View().Status != api.Wanting; n++ {
		s.step()
	}
	s.poke(layout.Request, 0)
	s.starve(20)
	if s.peek(layout.Request) != 1 || !slices.Equal(s.h.told, []int64{0}) {
		t.Error(s.h.told)
	}
	s.poke(layout.Done, 3)
	s.starve(20)
	s.poke(layout.Done, 4)
	if event, _ := s.upTo("new"); event.Trap != api.TrapMemory {
		t.Errorf("%+v", event)
	}
}

// While it waits the thread responds to handshakes.
func TestStarvingShakes(t *testing.T) {
	s := starving(t, 0)
	root := s.m.Roots()
	if len(root) < 1 || root[0] == 0 {
		t.Fatal(root)
	}
	s.h.collect = func() {
		if s.m.View().Status != api.Wanting {
			t.Error("Collect while it doesn't wait")
		}
	}
	for n, x := range []struct {
		kind    uint64
		barrier bool
		colour  int
		cycle   int
	}{
		{mutator.Arm, true, tlab.Grey, 0}, {mutator.Scan, true, tlab.Grey, 0}, {mutator.Blend, true, tlab.Black, 0},
		{mutator.Check, true, tlab.Black, 0}, {mutator.Quiet, false, tlab.Black, 0}, {mutator.Off, false, tlab.White, 1},
	} {
		epoch := uint64(8*(n+1)) + x.kind
		s.shake(epoch)
		s.starve(14)
		if s.peek(s.plan.Ack(0)) != epoch || s.m.Seen() != epoch || s.m.Barrier() != x.barrier || s.m.Colour() != x.colour || s.m.Cycle() != x.cycle {
			t.Errorf("behind %d: %d, %v, %d, %d", epoch, s.m.Seen(), s.m.Barrier(), s.m.Colour(), s.m.Cycle())
		}
		if s.marked(root[0]) != (n > 0) || len(s.waiting()) != min(n, 1) {
			t.Error(n, s.marked(root[0]), s.waiting())
		}
		// The object that a global alone holds isn't its business.
		if s.marked(int64(s.plan.Base())) {
			t.Error("a global is marked")
		}
	}
}

// An object that needs more pages than there are waits as well, and is then no object.
func TestTooLarge(t *testing.T) {
	for _, size := range []string{"64", "255"} {
		s := stood(t, planned(t, 1, 1, 1), 0, text("const "+size+"\nnewrefs\ndrop"))
		s.upTo("const")
		for s.m.View().Status != api.Wanting {
			if turn := s.step(); turn.Done {
				t.Fatalf("%+v", turn)
			}
		}
		s.starve(20)
		s.poke(layout.Done, 2)
		if event, _ := s.upTo("newrefs"); event.Trap != api.TrapMemory || s.peek(s.plan.Entry(0)) != 0 {
			t.Errorf("%+v", event)
		}
		s.finish()
	}
}

// A cycle makes no difference to a thread that doesn't wait.
func TestNobodyWaits(t *testing.T) {
	s := stood(t, planned(t, 1, 1, 1), 0, text("const 31\nnewrefs\nsetglobal 0\nconst 31\nnewrefs\nstore 0"))
	if s.finish(); s.h.helped != 0 || s.peek(layout.Request) != 0 {
		t.Error(s.h.helped)
	}
}
