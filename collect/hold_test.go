package collect_test

import (
	"slices"

	"windrow/api"
	"windrow/code"
	"windrow/collect"
	"windrow/image"
	"windrow/mutator"
	"windrow/objects"
	"windrow/plain"
	"windrow/ring"
)

// watch holds a rig against the plain machine, pick by pick, and objects that can be reached against those that are allocated.
type watch struct {
	*rig
	model   *plain.Machine
	want    []api.Thread        // of the plain machine
	cells   []api.Cell          // its objects
	outside []int64             // its references from outside
	name    map[int64]int64     // of the object that was made last at an address: what the plain machine calls it
	reached []bool              // by now, by the address
	begun   int                 // cycles
	lost    map[int64]int64     // what couldn't be reached when the cycle began, with its name
	hungry  [api.MaxThreads]int // how many cycles had begun when the thread began to wait, and one more; 0: it doesn't wait
	steps   [api.MaxThreads]int // of the thread for its instruction
	events  int
	freed   int
	trapped map[int]int
	ops     map[int]int
	phases  map[int]int
	joining int // picks behind which a thread waited for another one
}

func newWatch(r *rig) *watch {
	r.t.Helper()
	m, e := plain.New(r.program, r.plan.Threads)
	if e != api.OK {
		r.t.Fatal(e)
	}
	w := &watch{rig: r, model: m, name: map[int64]int64{}, trapped: map[int]int{}, ops: map[int]int{}, phases: map[int]int{}}
	w.look()
	w.reached = w.reach()
	return w
}

// look: what the plain machine is at, which changes by instructions alone.
func (w *watch) look() {
	x := w.model.Image()
	w.cells, w.outside, w.want = x.Cells, x.Roots, nil
	for i := range w.model.Count() {
		th, _ := w.model.Thread(i)
		w.want = append(w.want, th)
	}
}

// step: a pick, behind which all must be well.
func (w *watch) step(who int) mutator.Turn {
	phase, cycles := w.c.Phase(), w.c.Cycles()
	turn := w.pick(who)
	if turn.Done {
		w.take(turn.Event)
	}
	if who != gatherer {
		w.count(who, turn.Moved, turn.Done)
	}
	w.memory(who, turn.Event)
	before := w.reached
	w.reached = w.reach()
	if at := turn.Event.Addr; at != 0 && before[at] {
		w.t.Fatalf("the new object at %d is where another one was", at)
	}
	w.phases[w.c.Phase()]++
	if phase == collect.Idle && w.c.Phase() != collect.Idle {
		w.begin()
	}
	if w.c.Cycles() != cycles {
		w.end()
	}
	w.same()
	return turn
}

// take: the plain machine does the same instruction.
func (w *watch) take(event api.Event) {
	w.t.Helper()
	want, ok := w.model.Do(event.Thread, event.Trap != api.TrapMemory)
	name := want.Addr
	want.Addr, want.At = event.Addr, 0
	if !ok || want != event || name == 0 != (event.Addr == 0) {
		w.t.Fatalf("%+v, but the plain machine does %+v, %v", event, want, ok)
	}
	if name != 0 {
		w.name[event.Addr] = name
	}
	w.look()
	w.events++
	w.trapped[event.Trap]++
	w.ops[event.Op]++
}

// count holds the steps of an instruction against P19.3.
func (w *watch) count(who int, moved, done bool) {
	if moved {
		w.steps[who]++
	}
	v := w.threads[who].View()
	if v.Status == api.Joining {
		w.joining++
	}
	if done || v.Status != api.Running {
		// While it waits, nothing is said about its steps.
		w.steps[who] = 0
		return
	}
	f := v.Frames[len(v.Frames)-1]
	ins, _ := w.program.Ins(f.Fn, f.Pc)
	if most := 20 + 15*w.plan.Pages + 3*256; w.steps[who] > most || w.steps[who] > 20 && !makes(ins.Op) && ins.Op != code.Poll {
		w.t.Fatalf("%d steps of %s", w.steps[who], code.Name(ins.Op))
	}
}

func makes(op int) bool { return op == code.New || op == code.NewInts || op == code.NewRefs }

// memory holds TrapMemory against P21.5: a cycle that began behind the first attempt is completed.
func (w *watch) memory(who int, event api.Event) {
	if who == gatherer {
		return
	}
	if w.threads[who].View().Status == api.Wanting {
		if w.hungry[who] == 0 {
			w.hungry[who] = w.begun + 1
		}
		return
	}
	if event.Trap == api.TrapMemory && (w.hungry[who] == 0 || w.c.Cycles() < w.hungry[who]) {
		w.t.Fatalf("TrapMemory behind %d cycles; %d had begun", w.c.Cycles(), w.hungry[who]-1)
	}
	if event.Op != 0 {
		w.hungry[who] = 0
	}
}

// roots: the globals and the threads' references.
func (w *watch) roots() []int64 {
	var l []int64
	for i := range api.Globals {
		l = append(l, int64(w.peek(w.plan.Global(i))))
	}
	for _, m := range w.threads {
		l = append(l, m.Roots()...)
	}
	return l
}

// flight: all that is on its way.
func (w *watch) flight() []int64 {
	l := slices.Concat(w.c.Flight(), w.c.Stack())
	for i, m := range w.threads {
		l = append(l, m.Flight()...)
		words, e := ring.Waiting(w.a, w.plan, i)
		if e != api.OK {
			w.t.Fatal(e)
		}
		for _, word := range words {
			l = append(l, int64(word))
		}
	}
	return l
}

// reach: what is reached from all these. Each must be allocated and as the plain machine has it, and no two objects may share a word.
func (w *watch) reach() []bool {
	all, e := objects.All(w.a, w.plan, w.program.Table())
	if e != api.OK || !image.Apart(all) {
		w.t.Fatalf("All = %d, %+v", e, all)
	}
	where := make([]int, w.plan.Cells())
	for i, c := range all {
		where[c.Addr] = i + 1
	}
	reached := make([]bool, w.plan.Cells())
	wait := slices.Concat(w.roots(), w.flight())
	for len(wait) > 0 {
		at := wait[len(wait)-1]
		wait = wait[:len(wait)-1]
		if at == 0 || reached[at] {
			continue
		}
		reached[at] = true
		if where[at] == 0 {
			w.t.Fatalf("phase %d: %d is reached, and not allocated", w.c.Phase(), at)
		}
		c := all[where[at]-1]
		w.alike(c, w.cells[w.name[at]-1])
		wait = append(wait, objects.Refs(w.program.Table(), c)...)
	}
	return reached
}

// alike: is an object that of the plain machine?
func (w *watch) alike(c, want api.Cell) {
	if c.Class != want.Class || c.Kind != want.Kind || len(c.Words) != len(want.Words) {
		w.t.Fatalf("%+v, not %+v", c, want)
	}
	for i, n := range c.Words {
		if w.program.Table().IsRef(objects.Head(c), i) {
			n = w.name[n]
		}
		if n != want.Words[i] {
			w.t.Fatalf("%+v, not %+v", c, want)
		}
	}
}

// begin: what can't be reached now must be freed by this cycle.
func (w *watch) begin() {
	w.begun++
	w.lost = map[int64]int64{}
	all, _ := objects.All(w.a, w.plan, w.program.Table())
	for _, c := range all {
		if !w.reached[c.Addr] {
			w.lost[c.Addr] = w.name[c.Addr]
		}
	}
}

func (w *watch) end() {
	w.t.Helper()
	all, _ := objects.All(w.a, w.plan, w.program.Table())
	for _, c := range all {
		if name, ok := w.lost[c.Addr]; ok && w.name[c.Addr] == name {
			w.t.Fatalf("the object at %d is still allocated", c.Addr)
		}
	}
	w.freed += len(w.lost)
}

// same: are the threads those of the plain machine?
func (w *watch) same() {
	if len(w.threads) != len(w.want) {
		w.t.Fatalf("%d threads, not %d", len(w.threads), len(w.want))
	}
	for i, m := range w.threads {
		want, got := w.want[i], m.View()
		if got.Status == api.Joining || got.Status == api.Wanting {
			got.Status = api.Running
		}
		if got.Status != want.Status || got.Trap != want.Trap || got.Result != want.Result || len(got.Frames) != len(want.Frames) {
			w.t.Fatalf("thread %d: %+v, not %+v", i, got, want)
		}
		for n, f := range got.Frames {
			w.sameFrame(f, want.Frames[n])
		}
	}
	if got, want := w.roots(), w.outside; len(got) != len(want) {
		w.t.Fatalf("roots %v, not %v", got, want)
	} else {
		for i, at := range got {
			if at != 0 && w.name[at] != want[i] || at == 0 != (want[i] == 0) {
				w.t.Fatalf("roots %v, not %v", got, want)
			}
		}
	}
}

// sameFrame: are the numbers of a frame equal? Its references are among the roots, unless they may not be used.
func (w *watch) sameFrame(got, want api.Frame) {
	ok := got.Fn == want.Fn && got.Pc == want.Pc && len(got.Locals) == len(want.Locals) && len(got.Stack) == len(want.Stack)
	a, b := slices.Concat(got.Locals, got.Stack), slices.Concat(want.Locals, want.Stack)
	for i := 0; ok && i < len(a); i++ {
		ok = a[i].Type == b[i].Type && (a[i].Type == api.Ref || a[i].N == b[i].N)
	}
	if !ok {
		w.t.Fatalf("%+v, not %+v", got, want)
	}
}
