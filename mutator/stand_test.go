package mutator_test

import (
	"reflect"
	"slices"
	"testing"

	"windrow/api"
	"windrow/arena"
	"windrow/asm"
	"windrow/code"
	"windrow/layout"
	"windrow/mutator"
	"windrow/verify"
)

// most is more steps than any instruction of these tests takes.
const most = 2000

// host notes what a thread tells it.
type host struct {
	begun   []start
	raised  []int
	told    []int64
	full    bool         // there is no room for numbers
	gone    map[int]bool // the threads that have ended
	asked   int          // how often it was asked for that
	helped  int          // how often the collector made a step
	collect func()       // what that step does
	begin   func(n int)  // what is done when a thread is begun
	raise   func(n int)
}

// start is what Begin was given.
type start struct {
	n, fn int
	args  []api.Value
	by    *mutator.Mutator
}

func (h *host) Begin(n, fn int, args []api.Value, by *mutator.Mutator) {
	h.begun = append(h.begun, start{n, fn, args, by})
	if h.begin != nil {
		h.begin(n)
	}
}

func (h *host) Raise(n int) {
	h.raised = append(h.raised, n)
	if h.raise != nil {
		h.raise(n)
	}
}

func (h *host) Tell(t int, n int64) bool {
	if h.full {
		return false
	}
	h.told = append(h.told, n)
	return true
}

func (h *host) Gone(t int) bool {
	h.asked++
	return h.gone[t]
}

func (h *host) Collect() {
	h.helped++
	if h.collect != nil {
		h.collect()
	}
}

// stand is a thread that is alone, and what is around it.
type stand struct {
	*testing.T
	plan layout.Plan
	a    *arena.Arena
	p    *arena.Port
	h    *host
	m    *mutator.Mutator
	c    *verify.Checked
	n    int // its number
	log  []api.Access
}

// checked: a program's text, looked over.
func checked(t *testing.T, text string) *verify.Checked {
	t.Helper()
	p, line, e := asm.Parse(text)
	if e != api.OK {
		t.Fatalf("Parse: line %d: %d\n%s", line, e, text)
	}
	c, place, e := verify.Check(p)
	if e != api.OK {
		t.Fatalf("Check: %v: %d\n%s", place, e, text)
	}
	return c
}

// planned: a plan of so many pages, threads and slots.
func planned(t *testing.T, pages, threads, ring int) layout.Plan {
	t.Helper()
	plan, e := layout.New(pages, threads, ring)
	if e != api.OK {
		t.Fatal(e)
	}
	return plan
}

// stood: thread n of a plan, which begins with function 0 and may go on.
func stood(t *testing.T, plan layout.Plan, n int, text string) *stand {
	t.Helper()
	s := &stand{T: t, plan: plan, h: &host{gone: map[int]bool{}}, n: n}
	var e api.Errno
	if s.a, e = arena.New(plan.Cells(), true); e != api.OK {
		t.Fatal(e)
	}
	if s.p, e = s.a.Port(n); e != api.OK {
		t.Fatal(e)
	}
	s.c = checked(t, text)
	if s.m, e = mutator.New(plan, s.c, s.h, n, 0, nil); s.m == nil || e != api.OK {
		t.Fatalf("New = %v, %d", s.m, e)
	}
	s.poke(layout.Count, uint64(n)+1)
	for i := range n + 1 {
		s.poke(plan.Status(i), mutator.Runs)
	}
	s.m.Start()
	return s
}

// main: a thread that is alone in two pages, with a ring of four slots; its program has some classes, and a main that begins with a poll.
func main(t *testing.T, body string) *stand {
	t.Helper()
	return stood(t, planned(t, 2, 1, 4), 0, text(body))
}

// text: some classes, and a main that begins with a poll.
func text(body string) string {
	return "class pair a:ref b:ref n:int\nclass box to:ref\nclass none\nfunc main\nlocals ref ref ref int int\npoll\n" + body + "\nreturn\nend"
}

func (s *stand) poke(at int, v uint64) {
	s.Helper()
	if e := s.a.Poke(at, v); e != api.OK {
		s.Fatal(at, e)
	}
}

func (s *stand) peek(at int) uint64 {
	s.Helper()
	v, e := s.a.Peek(at)
	if e != api.OK {
		s.Fatal(at, e)
	}
	return v
}

// step makes one, which is right if it makes one access at most, and changes the frames only if an instruction takes effect.
func (s *stand) step() mutator.Turn {
	s.Helper()
	view := s.m.View()
	s.p.Grant()
	made := s.a.Count()
	turn := s.m.Step(s.p)
	s.log = nil
	for i, x := range s.a.Log() {
		if i >= made {
			s.log = append(s.log, x)
		}
	}
	after := s.m.View()
	ended := after.Status >= api.Ended && view.Status < api.Ended
	// Whether it waits may change at any step.
	view.Status, after.Status = 0, 0
	switch {
	case ended && !turn.Done:
		s.Fatalf("it ended by no instruction: %+v", view)
	case len(s.log) > 1 || s.a.Faults() > 0:
		s.Fatalf("accesses %+v, %d faults", s.log, s.a.Faults())
	case turn.Done && !turn.Moved, !turn.Done && turn.Event != (api.Event{}), !turn.Moved && len(s.log) > 0:
		s.Fatalf("%+v with %+v", turn, s.log)
	case !turn.Done && !reflect.DeepEqual(view, after):
		s.Fatalf("no instruction took effect, but %+v became %+v", view, after)
	}
	return turn
}

// next makes steps until an instruction takes effect, and tells all accesses.
func (s *stand) next() (api.Event, []api.Access) {
	s.Helper()
	var l []api.Access
	for range most {
		turn := s.step()
		l = append(l, s.log...)
		if turn.Done {
			if turn.Event.Thread != s.n || turn.Event.At != 0 {
				s.Fatalf("%+v", turn.Event)
			}
			return turn.Event, l
		}
	}
	s.Fatalf("nothing takes effect: %+v", s.m.View())
	return api.Event{}, nil
}

// upTo makes steps until an instruction of that name takes effect, and tells its accesses.
func (s *stand) upTo(name string) (api.Event, []api.Access) {
	s.Helper()
	for range most {
		if event, l := s.next(); event.Op == code.Find(name) {
			return event, l
		}
	}
	s.Fatalf("no %s takes effect", name)
	return api.Event{}, nil
}

// finish makes steps until the thread is gone, and tells all events.
func (s *stand) finish() []api.Event {
	s.Helper()
	var l []api.Event
	for range most {
		if s.m.Gone() {
			return l
		}
		if turn := s.step(); turn.Done {
			l = append(l, turn.Event)
		}
	}
	s.Fatalf("it is not gone: %+v", s.m.View())
	return nil
}

// still: its steps do nothing.
func (s *stand) still() {
	s.Helper()
	for range 3 {
		if turn := s.step(); turn != (mutator.Turn{}) || !s.p.Open() {
			s.Fatalf("%+v", turn)
		}
	}
}

// last: the access with which an instruction took effect.
func (s *stand) last(l []api.Access) api.Access {
	s.Helper()
	if len(l) == 0 || !slices.Equal(s.log, l[len(l)-1:]) {
		s.Fatalf("no access in the last step of %+v", l)
	}
	return l[len(l)-1]
}

// top: the last value on the stack.
func (s *stand) top() api.Value {
	s.Helper()
	v := s.m.View()
	l := v.Frames[len(v.Frames)-1].Stack
	return l[len(l)-1]
}

// shake asks a handshake of the thread.
func (s *stand) shake(epoch uint64) { s.poke(layout.Epoch, epoch) }

// marked: is an object's mark set?
func (s *stand) marked(at int64) bool {
	s.Helper()
	page, word := s.plan.Place(int(at))
	return s.peek(s.plan.Mark(page))>>word&1 == 1
}

// ins: the name of an instruction.
func (s *stand) ins(fn, pc int) (string, api.Errno) {
	i, e := s.c.Ins(fn, pc)
	return code.Name(i.Op), e
}
