package world_test

import (
	"strconv"
	"sync"
	"testing"

	"windrow/api"
)

// tally counts what was tried.
type tally struct {
	sync.Mutex
	traps, phases                      map[int]int
	freed, cycles, joining, over, many int
}

func (c *tally) add(w *watch) {
	c.Lock()
	defer c.Unlock()
	for trap, n := range w.traps {
		c.traps[trap] += n
	}
	for phase, n := range w.phases {
		c.phases[phase] += n
	}
	c.freed += w.freed
	c.cycles += w.view.Cycles
	c.joining += w.joining
	if w.w.Over() {
		c.over++
	}
	if w.w.Count() > 3 {
		c.many++
	}
}

// each has so many seeds tried beside one another.
func each(t *testing.T, n int, try func(t *testing.T, s *seed)) {
	t.Run("seeds", func(t *testing.T) {
		for i := range n {
			t.Run(strconv.Itoa(i), func(t *testing.T) {
				t.Parallel()
				s := seed(210000 + i)
				try(t, &s)
			})
		}
	})
}

// P21.1 to P21.6: programs and scripts without a pattern.
func TestMany(t *testing.T) {
	all := &tally{traps: map[int]int{}, phases: map[int]int{}}
	each(t, 160, func(t *testing.T, s *seed) { all.add(s.play(t, 6000)) })
	if all.freed < 200 || all.cycles < 60 || all.traps[0] < 30000 || all.traps[api.TrapMemory] < 5 || all.joining < 1000 || all.over < 10 || all.many < 10 {
		t.Errorf("hardly tried: %+v", all)
	}
	for phase := range 10 {
		if all.phases[phase] < 1000 {
			t.Errorf("phase %d was hardly tried: %+v", phase, all)
		}
	}
}
