package world_test

import (
	"slices"
	"testing"

	"windrow/api"
	"windrow/asm"
	"windrow/code"
	"windrow/collect"
	"windrow/image"
	"windrow/layout"
	"windrow/objects"
	"windrow/plain"
	"windrow/verify"
	"windrow/world"
)

// checked: a program's text, looked over.
func checked(t *testing.T, text string) *verify.Checked {
	t.Helper()
	p, line, e := asm.Parse(text)
	if e != api.OK {
		t.Fatalf("Parse: line %d: %d\n%s", line, e, text)
	}
	c, place, e := verify.Check(p)
	if e != api.OK {
		t.Fatalf("Check: %v: %d\n%s", place, e, text)
	}
	return c
}

// made: a world.
func made(t *testing.T, c *verify.Checked, cfg world.Config) *world.World {
	t.Helper()
	w, e := world.New(c, cfg)
	if e != api.OK || w == nil {
		t.Fatal(e)
	}
	return w
}

// watch is a world that is held against the plain machine behind each pick, and against all that is promised.
type watch struct {
	*testing.T
	w       *world.World
	program *verify.Checked
	plan    layout.Plan
	model   *plain.Machine
	threads []api.Thread // of the plain machine
	x       image.Image  // its objects and roots
	events  []api.Event
	view    world.View
	name    []int64             // of the object that was made last at an address: what the plain machine calls it
	reached []bool              // what is reached now, by the address
	lost    map[int64]bool      // the names of what wasn't reached when the cycle began
	hungry  [api.MaxThreads]int // how many cycles had begun when the thread began to wait for memory, and one more; 0: it doesn't
	due     [api.MaxThreads]int // how many instructions the thread may do ahead of its next poll
	freed   int
	traps   map[int]int
	phases  map[int]int
	joining int
}

func watched(t *testing.T, c *verify.Checked, cfg world.Config) *watch {
	t.Helper()
	w := &watch{T: t, w: made(t, c, cfg), program: c, traps: map[int]int{}, phases: map[int]int{}}
	w.plan = w.w.Plan()
	w.name = make([]int64, w.plan.Cells())
	w.reached = make([]bool, w.plan.Cells())
	var e api.Errno
	if w.model, e = plain.New(c, cfg.Threads); e != api.OK {
		t.Fatal(e)
	}
	w.look()
	w.examine()
	return w
}

// look: what the plain machine is at, which changes by instructions alone.
func (w *watch) look() {
	w.x, w.threads = w.model.Image(), nil
	for i := range w.model.Count() {
		th, _ := w.model.Thread(i)
		w.threads = append(w.threads, th)
	}
}

// pick: one, behind which all must be well.
func (w *watch) pick(who int) world.Turn {
	w.Helper()
	picks, accesses := w.w.Picks(), w.w.Accesses()
	turn := w.w.Pick(who)
	made := w.w.Accesses() - accesses
	if w.w.Picks() != picks+1 || w.w.Faults() > 0 || made > 1 || turn.Access != (made == 1) || (turn.Access || turn.Done) && !turn.Moved {
		w.Fatalf("pick %d of %d: %+v, %d accesses, %d faults", picks, who, turn, made, w.w.Faults())
	}
	if who == world.Gatherer && turn != (world.Turn{Moved: true, Access: true}) || !turn.Done && turn.Event != (api.Event{}) {
		w.Fatalf("pick %d of %d: %+v", picks, who, turn)
	}
	if turn.Done {
		w.do(turn.Event, picks)
		w.look()
		w.row(turn.Event)
	}
	w.after(turn.Event)
	return turn
}

// do: the plain machine does the same instruction.
func (w *watch) do(event api.Event, at int) {
	w.Helper()
	want, ok := w.model.Do(event.Thread, event.Trap != api.TrapMemory)
	name := want.Addr
	want.Addr, want.At = event.Addr, at
	if !ok || want != event || name == 0 != (event.Addr == 0) {
		w.Fatalf("%+v, but the plain machine does %+v, %v", event, want, ok)
	}
	if name != 0 {
		w.name[event.Addr] = name
	}
	w.events = append(w.events, event)
	w.traps[event.Trap]++
}

// far: how many instructions there may be ahead of a thread's next poll.
func (w *watch) far(t int) (most int) {
	for _, f := range w.threads[t].Frames {
		n, _ := w.program.Row(f.Fn)
		most += n
	}
	return most
}

// row holds the instructions since a thread's poll against P21.4.
func (w *watch) row(event api.Event) {
	t := event.Thread
	most := w.far(t)
	w.due[t]--
	if event.Op == code.Poll {
		w.due[t] = most
		if cells := w.w.Image(); cells[w.plan.Ack(t)] != cells[layout.Epoch] {
			w.Fatalf("thread %d hasn't responded", t)
		}
	}
	if w.due[t] < 0 {
		w.Fatalf("thread %d doesn't come to a poll", t)
	}
	w.due[t] = min(w.due[t], most)
}

// after: all that must hold behind a pick; it may have done an instruction.
func (w *watch) after(event api.Event) {
	w.Helper()
	phase, cycles, before := w.view.Phase, w.view.Cycles, w.reached
	w.examine()
	if event.Addr != 0 && before[event.Addr] {
		w.Fatalf("the new object at %d is where another one was", event.Addr)
	}
	w.memory(event)
	w.phases[w.view.Phase]++
	if phase == collect.Idle && w.view.Phase != collect.Idle {
		w.begin()
	}
	if w.view.Cycles != cycles {
		w.end()
	}
}

// examine looks at the world and holds it against the plain machine.
func (w *watch) examine() {
	w.Helper()
	v, e := w.w.View()
	if e != api.OK || !image.Apart(v.Cells) {
		w.Fatalf("View: %d, %+v", e, v.Cells)
	}
	w.view = v
	w.reach()
	w.sameRoots()
	if len(v.Threads) != len(w.threads) || w.w.Count() != len(v.Threads) {
		w.Fatalf("%d threads, not %d", len(v.Threads), len(w.threads))
	}
	for i := range v.Threads {
		w.sameThread(i)
	}
}

// reach: what is reached must be allocated, and as the plain machine has it.
func (w *watch) reach() {
	w.Helper()
	where := make([]int, w.plan.Cells())
	for i, c := range w.view.Cells {
		where[c.Addr] = i + 1
	}
	w.reached = make([]bool, w.plan.Cells())
	wait := slices.Concat(w.view.Roots, w.view.Flight)
	for len(wait) > 0 {
		at := wait[len(wait)-1]
		wait = wait[:len(wait)-1]
		if at == 0 || w.reached[at] {
			continue
		}
		w.reached[at] = true
		if where[at] == 0 {
			w.Fatalf("phase %d: %d is reached, and not allocated", w.view.Phase, at)
		}
		c := w.view.Cells[where[at]-1]
		w.alike(c, w.x.Cells[w.name[at]-1])
		wait = append(wait, objects.Refs(w.program.Table(), c)...)
	}
}

// alike: is an object that of the plain machine?
func (w *watch) alike(c, want api.Cell) {
	w.Helper()
	if c.Class != want.Class || c.Kind != want.Kind || len(c.Words) != len(want.Words) {
		w.Fatalf("%+v, not %+v", c, want)
	}
	words := slices.Clone(c.Words)
	for i := range w.program.Table().Pointers(objects.Head(c)) {
		words[i] = w.name[words[i]]
	}
	if !slices.Equal(words, want.Words) {
		w.Fatalf("%+v, not %+v", c, want)
	}
}

// sameRoots: are the references from outside those of the plain machine?
func (w *watch) sameRoots() {
	w.Helper()
	named := make([]int64, 0, len(w.view.Roots))
	for _, at := range w.view.Roots {
		named = append(named, w.name[at])
	}
	if !slices.Equal(named, w.x.Roots) || !slices.Equal(w.view.Globals, w.view.Roots[:api.Globals]) {
		w.Fatalf("%v, named %v, not %v; globals %v", w.view.Roots, named, w.x.Roots, w.view.Globals)
	}
}

// sameThread: is a thread that of the plain machine?
func (w *watch) sameThread(i int) {
	w.Helper()
	got, want := w.view.Threads[i], w.threads[i]
	switch got.Status {
	case api.Joining:
		w.joining++
		got.Status = api.Running
	case api.Wanting:
		got.Status = api.Running
	}
	if got.Status != want.Status || got.Trap != want.Trap || got.Result != want.Result || !slices.EqualFunc(got.Frames, want.Frames, sameFrame) {
		w.Fatalf("thread %d: %+v, not %+v", i, got, want)
	}
}

// sameFrame: are the numbers of two frames equal? Their references are among the roots, unless they may not be used.
func sameFrame(f, g api.Frame) bool {
	return f.Fn == g.Fn && f.Pc == g.Pc && slices.EqualFunc(f.Locals, g.Locals, sameValue) && slices.EqualFunc(f.Stack, g.Stack, sameValue)
}

func sameValue(v, u api.Value) bool { return v.Type == u.Type && (v.Type == api.Ref || v.N == u.N) }

// memory holds TrapMemory against P21.5: a cycle that began behind the first attempt is completed.
func (w *watch) memory(event api.Event) {
	w.Helper()
	t := event.Thread
	if event.Trap == api.TrapMemory && (w.hungry[t] == 0 || w.view.Cycles < w.hungry[t]) {
		w.Fatalf("%+v behind %d cycles; %d had begun", event, w.view.Cycles, w.hungry[t]-1)
	}
	if event.Op != 0 {
		w.hungry[t] = 0
	}
	for i, th := range w.view.Threads {
		if th.Status == api.Wanting && w.hungry[i] == 0 {
			w.hungry[i] = w.begun() + 1
		}
	}
}

// begun: how many cycles have.
func (w *watch) begun() int {
	if w.view.Phase == collect.Idle {
		return w.view.Cycles
	}
	return w.view.Cycles + 1
}

// begin: what isn't reached now must be freed by this cycle.
func (w *watch) begin() {
	w.lost = map[int64]bool{}
	for _, c := range w.view.Cells {
		if !w.reached[c.Addr] {
			w.lost[w.name[c.Addr]] = true
		}
	}
}

func (w *watch) end() {
	w.Helper()
	for _, c := range w.view.Cells {
		if w.lost[w.name[c.Addr]] {
			w.Fatalf("the object at %d is still allocated", c.Addr)
		}
	}
	w.freed += len(w.lost)
}

// catchUp has the plain machine do what the world has done by itself, and looks at both.
func (w *watch) catchUp() {
	w.Helper()
	for _, event := range w.w.Events()[len(w.events):] {
		w.do(event, event.At)
		w.hungry[event.Thread] = 0
	}
	w.look()
	w.examine()
	// What began meanwhile was not seen to begin.
	w.lost = nil
	for i, th := range w.view.Threads {
		w.due[i] = w.far(i)
		if th.Status == api.Wanting && w.hungry[i] == 0 {
			w.hungry[i] = 1
		}
	}
}

// same: the outputs and the events, and nothing that is out of bounds.
func (w *watch) same() {
	w.Helper()
	if !slices.Equal(w.w.Outputs(), w.model.Outputs()) || !slices.Equal(w.w.Events(), w.events) || w.w.Faults() != 0 {
		w.Fatalf("%v, not %v; %d events, not %d; %d faults", w.w.Outputs(), w.model.Outputs(), len(w.w.Events()), len(w.events), w.w.Faults())
	}
}
