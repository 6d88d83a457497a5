package world_test

import (
	"reflect"
	"slices"
	"testing"

	"windrow/api"
	"windrow/arena"
	"windrow/world"
)

// whole is all that can be seen of a world.
type whole struct {
	View                                  world.View
	Image                                 []uint64
	Outputs                               []api.Output
	Events                                []api.Event
	Count, Picks, Accesses, Faults, Freed int
	Over                                  bool
}

func seen(t *testing.T, w *world.World) whole {
	t.Helper()
	v, e := w.View()
	if e != api.OK {
		t.Fatal(e)
	}
	return whole{v, w.Image(), w.Outputs(), w.Events(), w.Count(), w.Picks(), w.Accesses(), w.Faults(), w.Freed(), w.Over()}
}

// alike: are two worlds the same, as far as can be seen?
func alike(t *testing.T, a, b *world.World) {
	t.Helper()
	if x, y := seen(t, a), seen(t, b); !reflect.DeepEqual(x, y) {
		t.Fatalf("%+v\nis not\n%+v", x, y)
	}
}

// P21.6: the result depends on the program, the configuration and the picks alone, whoever looks meanwhile; and all that happens to the cells is in the log.
func TestSame(t *testing.T) {
	each(t, 40, func(t *testing.T, s *seed) {
		cfg := s.config()
		c := s.checked(t, cfg.Threads)
		order := s.script()
		a, b := made(t, c, cfg), made(t, c, cfg)
		cfg.Keep = true
		kept := made(t, c, cfg)
		first := kept.Image()
		for range 20 {
			var picks []int
			done := 0
			for range s.below(300) {
				who := order.pick(a.Count())
				turn := a.Pick(who)
				order.note(who, turn)
				picks = append(picks, who)
				if turn.Done {
					done++
				}
				a.View()
				a.Image()
			}
			for _, w := range []*world.World{b, kept} {
				if got, e := w.Run(picks); got != done || e != api.OK {
					t.Fatal(got, e, done)
				}
				alike(t, a, w)
			}
		}
		log := kept.Log()
		last, at, e := arena.Replay(first, log)
		if e != api.OK || !slices.Equal(last, kept.Image()) || len(log) != kept.Accesses() || len(a.Log()) != 0 {
			t.Fatalf("%d accesses, %d of them kept; Replay: %d, %d", kept.Accesses(), len(log), at, e)
		}
		for _, made := range log {
			if made.Who != api.CollectorID && (made.Who < 0 || made.Who >= a.Count()) {
				t.Fatalf("%+v", made)
			}
		}
	})
}

// Results are new memory.
func TestMemory(t *testing.T) {
	s := seed(2161)
	cfg := world.Config{Pages: 3, Threads: 3, Ring: 2, Marks: 2, Keep: true}
	for range 12 {
		c, ahead := s.checked(t, 3), 500+s.below(3000)
		w, twin := made(t, c, cfg), made(t, c, cfg)
		w.Turns(ahead)
		twin.Turns(ahead)
		before, log := seen(t, w), w.Log()
		v, _ := w.View()
		spoil(v.Globals, -1)
		if !slices.Equal(v.Roots, before.View.Roots) {
			t.Fatal("the globals and the roots share memory")
		}
		spoil(v.Roots, -1)
		spoil(v.Flight, -1)
		spoil(v.Marked, -1)
		for _, c := range v.Cells {
			spoil(c.Words, -1)
		}
		for _, th := range v.Threads {
			for _, f := range th.Frames {
				spoil(f.Locals, api.Value{Type: 9})
				spoil(f.Stack, api.Value{Type: 9})
			}
			spoil(th.Frames, api.Frame{Fn: 9})
		}
		spoil(v.Cells, api.Cell{Addr: 9})
		spoil(v.Threads, api.Thread{Trap: 9})
		spoil(w.Image(), 9)
		spoil(w.Outputs(), api.Output{Thread: 9})
		spoil(w.Events(), api.Event{Op: 99})
		spoil(w.Log(), api.Access{Who: 9})
		if after := seen(t, w); !reflect.DeepEqual(before, after) || !slices.Equal(log, w.Log()) {
			t.Fatalf("%+v\nis not\n%+v", after, before)
		}
		// Nor is what was changed used by what comes.
		w.Turns(900)
		twin.Turns(900)
		alike(t, w, twin)
	}
}

// spoil overwrites a list and what it might have behind its end.
func spoil[T any](l []T, v T) {
	l = l[:cap(l)]
	for i := range l {
		l[i] = v
	}
}
