package world_test

import (
	"testing"

	"windrow/api"
	"windrow/asm"
	"windrow/verify"
	"windrow/world"
)

// config: one without a pattern, mostly small.
func (s *seed) config() world.Config {
	c := world.Config{Threads: 1 + s.below(6), Ring: 1 + s.below(2), Marks: 1 + s.below(2)}
	c.Pages = c.Threads + 1 + s.below(8)
	switch s.below(6) {
	case 0:
		c.Pages, c.Ring, c.Marks = 1+s.below(32), 1+s.below(16), 1+s.below(64)
	case 1, 2:
		c.Pages = 1 + s.below(5)
	}
	return c
}

// checked: a program without a pattern.
func (s *seed) checked(t *testing.T, threads int) *verify.Checked {
	t.Helper()
	for {
		text := s.program(threads)
		// A function may have become too long.
		if _, _, e := asm.Parse(text); e != api.ErrBig {
			return checked(t, text)
		}
	}
}

// script tells whose pick comes next. For some picks each one has a weight; and whoever has made an access may stand still for a while, amid what it does.
type script struct {
	*seed
	left    int
	weights [api.MaxThreads + 1]int
	still   [api.MaxThreads + 1]int
	rare    int // how seldom it stands still
}

func (s *seed) script() *script {
	return &script{seed: s, rare: []int{3, 10, 40, 1000}[s.below(4)]}
}

func (s *script) pick(threads int) int {
	if s.oneIn(200) {
		return []int{-1, 7, threads, 1 << 40, -1 << 62}[s.below(5)]
	}
	if s.left == 0 {
		s.left = 1 + s.below(200)
		for i := range s.weights {
			s.weights[i] = []int{0, 1, 1, 2, 2, 30}[s.below(6)]
		}
		s.weights[world.Gatherer] *= 1 + s.below(4)
	}
	s.left--
	var l []int
	for who, weight := range s.weights {
		if who >= threads && who != world.Gatherer {
			continue
		}
		if s.still[who] > 0 {
			s.still[who]--
			continue
		}
		for range weight {
			l = append(l, who)
		}
	}
	if len(l) == 0 {
		return world.Gatherer
	}
	return l[s.below(len(l))]
}

// note: what a pick came to.
func (s *script) note(who int, turn world.Turn) {
	if turn.Access && s.oneIn(s.rare) {
		s.still[who] = []int{3, 20, 80, 300}[s.below(4)]
	}
}

// play: a program and a script without a pattern.
func (s *seed) play(t *testing.T, most int) *watch {
	t.Helper()
	cfg := s.config()
	w := watched(t, s.checked(t, cfg.Threads), cfg)
	order := s.script()
	for n := 0; n < most && !w.w.Over(); n++ {
		who := order.pick(w.w.Count())
		order.note(who, w.pick(who))
	}
	w.same()
	return w
}
