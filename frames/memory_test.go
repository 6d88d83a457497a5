package frames_test

import (
	"slices"
	"testing"

	"windrow/api"
	"windrow/frames"
	"windrow/verify"
)

// spoil writes over all of a list, also over its spare capacity.
func spoil[T any](l []T, v T) {
	l = l[:cap(l)]
	for i := range l {
		l[i] = v
	}
}

// spoilAll writes over all that a thread has told.
func spoilAll(th *frames.Thread) {
	v := th.View()
	for _, f := range v.Frames {
		spoil(f.Locals, api.Value{Type: 9, N: -9})
		spoil(f.Stack, api.Value{Type: 9, N: -9})
	}
	spoil(v.Frames, api.Frame{Fn: -9, Pc: -9})
	w, _ := th.Want()
	spoil(w.Args, api.Value{Type: 9, N: -9})
	spoil(th.Roots(), -9)
}

// P17.3: what a thread tells shares no memory with it, at any place of programs without a pattern.
func TestResultsApart(t *testing.T) {
	s := seed(173)
	for range 300 {
		p := s.program()
		c, _, e := verify.Check(p)
		if e != api.OK {
			continue
		}
		th, m := s.begin(t, c, p)
		for range 100 {
			if m.Status != api.Running {
				break
			}
			spoilAll(th)
			wants(t, th, m.want())
			answer := s.value(m.want().Type)
			view, roots := th.View(), th.Roots()
			kept := api.Thread{Status: view.Status}
			for _, f := range view.Frames {
				f.Locals, f.Stack = slices.Clone(f.Locals), slices.Clone(f.Stack)
				kept.Frames = append(kept.Frames, f)
			}
			same := slices.Clone(roots)
			done(t, th, answer)
			m.done(answer)
			// What was told stays as it is when the thread goes on.
			if !sameThread(view, kept) || !slices.Equal(roots, same) {
				t.Fatalf("%+v became %+v", kept, view)
			}
			stands(t, th, m.Thread)
		}
	}
}

// P17.3: a spawn's arguments stay when the thread goes on, and no two wants share them.
func TestArgsApart(t *testing.T) {
	th := begun(t, "func main\npoll\nconst 1\nconst 2\nspawn f\nconst 3\nconst 4\nspawn f\ndrop\ndrop\nreturn\nend\nfunc f int int\npoll\nreturn\nend")
	skip(t, th, make([]api.Value, 3)...)
	a, _ := th.Want()
	b, _ := th.Want()
	spoil(b.Args, number(-9))
	done(t, th, number(7))
	skip(t, th, make([]api.Value, 2)...)
	c, _ := th.Want()
	if !slices.Equal(a.Args, []api.Value{number(1), number(2)}) || !slices.Equal(c.Args, []api.Value{number(3), number(4)}) {
		t.Errorf("%v, %v", a.Args, c.Args)
	}
}

// P17.3, Rule 4: Start neither keeps nor changes its arguments, also in their spare capacity; two threads share nothing.
func TestArgumentsStay(t *testing.T) {
	p := checked(t, "func main\npoll\nreturn\nend\nfunc f int ref\nlocals int\npoll\nconst 5\nstore 0\nconst 6\nstore 2\nreturn\nend")
	args := []api.Value{number(1), ref(2), number(77), number(77), number(77)}[:2]
	kept := slices.Clone(args[:5])
	a := started(t, p, 1, args...)
	b := started(t, p, 1, args...)
	skip(t, a, make([]api.Value, 5)...)
	if !slices.Equal(args[:5], kept) {
		t.Errorf("the arguments are now %v", args[:5])
	}
	spoil(args, number(-9))
	runs(t, a, api.Frame{Fn: 1, Pc: 5, Locals: []api.Value{number(5), ref(2), number(6)}})
	runs(t, b, api.Frame{Fn: 1, Locals: []api.Value{number(1), ref(2), {}}})
}
