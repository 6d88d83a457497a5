package collect_test

import (
	"strconv"
	"sync"
	"testing"

	"windrow/api"
	"windrow/collect"
	"windrow/layout"
	"windrow/objects"
)

// script tells whose pick comes next: for some picks, one or some are picked more often than the others. While objects are marked, it is mostly threads.
type script struct {
	*seed
	left   int
	often  []int
	seldom int // how seldom somebody else is picked
}

func (s *script) pick(w *watch) int {
	count := len(w.threads)
	if s.left == 0 {
		s.left = 1 + s.below(60)
		s.often = nil
		for range 1 + s.below(3) {
			s.often = append(s.often, s.any(count))
		}
		s.seldom = 2 + s.below(30)
	}
	s.left--
	if phase := w.c.Phase(); phase >= collect.Rooting && phase <= collect.Marking && s.below(8) > 0 {
		return s.below(count)
	}
	if s.below(s.seldom) == 0 {
		return s.any(count)
	}
	return s.often[s.below(len(s.often))]
}

func (s *script) any(count int) int {
	if s.below(3) == 0 {
		return gatherer
	}
	return s.below(count)
}

// P20.2, P20.3, and what the whole promises: programs without a pattern, under scripts without a pattern, do what they do on the plain machine; what can be reached is never freed, what can't be when a cycle begins is freed by it.
func TestMany(t *testing.T) {
	var lock sync.Mutex
	all := &tally{traps: map[int]int{}, phases: map[int]int{}, ops: map[int]int{}}
	t.Run("scripts", func(t *testing.T) {
		for n := range 8 {
			t.Run(strconv.Itoa(n), func(t *testing.T) {
				t.Parallel()
				s := seed(2020 + 77777*n)
				for range 10 {
					w := s.play(t, 4000)
					lock.Lock()
					all.add(w)
					lock.Unlock()
				}
			})
		}
	})
	if all.freed < 200 || all.cycles < 60 || all.traps[0] < 30000 || all.traps[api.TrapMemory] < 10 || all.joining < 1000 {
		t.Errorf("hardly tried: %+v", all)
	}
	for phase := range 10 {
		if all.phases[phase] < 3000 {
			t.Errorf("phase %d was hardly tried: %+v", phase, all)
		}
	}
}

// play: a program and a script without a pattern.
func (s *seed) play(t *testing.T, most int) *watch {
	plan, _ := layout.New(1+s.below(6), 1+s.below(6), 1+s.below(3))
	w := newWatch(build(t, checked(t, s.program(plan.Threads)), plan, 1+s.below(3)))
	order := &script{seed: s}
	for n := 0; n < most && !w.over(); n++ {
		w.step(order.pick(w))
	}
	return w
}

// tally counts what was tried.
type tally struct {
	traps, phases, ops     map[int]int
	freed, cycles, joining int
}

func (c *tally) add(w *watch) {
	for trap, n := range w.trapped {
		c.traps[trap] += n
	}
	for phase, n := range w.phases {
		c.phases[phase] += n
	}
	for op, n := range w.ops {
		c.ops[op] += n
	}
	c.freed += w.freed
	c.cycles += w.c.Cycles()
	c.joining += w.joining
}

// P20.3: when no thread can go on, a cycle frees all that can't be reached, within the picks that chapter 21 allows.
func TestEnds(t *testing.T) {
	t.Parallel()
	s := seed(209)
	ended, midway := 0, 0
	for range 30 {
		plan, _ := layout.New(1+s.below(6), 1+s.below(6), 1+s.below(3))
		w := newWatch(build(t, checked(t, s.program(plan.Threads)), plan, 1+s.below(3)))
		for n := 0; n < 800 && w.round(); n++ {
			// The collector makes steps, too, so that a cycle goes on in some cases.
			for range s.below(2 * len(w.threads)) {
				w.step(gatherer)
			}
		}
		if w.round() {
			continue
		}
		ended++
		if w.c.Phase() != collect.Idle {
			midway++
		}
		w.finish()
	}
	if ended < 10 || midway < 2 {
		t.Error("hardly tried", ended, midway)
	}
}

// round: a step of each thread; did one do something?
func (w *watch) round() bool {
	moved := false
	for i := range len(w.threads) {
		moved = w.step(i).Moved || moved
	}
	return moved
}

// finish completes a cycle that begins from now on, while no thread can go on.
func (w *watch) finish() {
	w.t.Helper()
	begun, n := w.begun, 0
	everyone := len(w.threads) + 1
	for w.begun == begun || w.c.Phase() != collect.Idle {
		if w.begun == begun && w.c.Phase() == collect.Idle {
			w.a.Poke(layout.Request, 1)
		}
		who := n % everyone
		if who == len(w.threads) {
			who = gatherer
		}
		if turn := w.step(who); turn.Moved {
			w.t.Fatalf("%+v", turn)
		}
		n++
	}
	if bound := 2 * everyone * (3000 + (2+32*w.plan.Pages)*200*w.plan.Pages); n > bound {
		w.t.Errorf("%d picks, which is more than %d", n, bound)
	}
	// Nothing was made meanwhile, so that all that is left can be reached.
	all, _ := objects.All(w.a, w.plan, w.program.Table())
	for _, c := range all {
		if !w.reached[c.Addr] {
			w.t.Errorf("%+v is left", c)
		}
	}
}
