package collect_test

import (
	"testing"

	"windrow/api"
	"windrow/arena"
	"windrow/asm"
	"windrow/collect"
	"windrow/layout"
	"windrow/mutator"
	"windrow/verify"
)

// gatherer is the pick of the collector.
const gatherer = api.MaxThreads

// rig is threads and the collector over one arena, a step of one of them at a time.
type rig struct {
	t       *testing.T
	program *verify.Checked
	plan    layout.Plan
	a       *arena.Arena
	threads []*mutator.Mutator
	ports   []*arena.Port
	c       *collect.Collector
	port    *arena.Port
	outputs []api.Output
}

// checked: a program's text, looked over.
func checked(t *testing.T, text string) *verify.Checked {
	t.Helper()
	p, line, e := asm.Parse(text)
	if e != api.OK {
		t.Fatalf("Parse: line %d: %d\n%s", line, e, text)
	}
	c, place, e := verify.Check(p)
	if e != api.OK {
		t.Fatalf("Check: %v: %d\n%s", place, e, text)
	}
	return c
}

// build: a rig at its beginning.
func build(t *testing.T, program *verify.Checked, plan layout.Plan, marks int) *rig {
	t.Helper()
	r := &rig{t: t, program: program, plan: plan}
	var e api.Errno
	if r.a, e = arena.New(plan.Cells(), false); e != api.OK {
		t.Fatal(e)
	}
	if r.c, e = collect.New(plan, program.Table(), marks, r.find); e != api.OK {
		t.Fatal(e)
	}
	r.port, _ = r.a.Port(api.CollectorID)
	r.a.Poke(layout.Count, 1)
	r.a.Poke(plan.Status(0), mutator.Runs)
	r.Begin(0, 0, nil, nil)
	r.Raise(0)
	return r
}

func (r *rig) find(t int) collect.Subject { return r.threads[t] }

func (r *rig) Begin(n, fn int, args []api.Value, by *mutator.Mutator) {
	m, e := mutator.New(r.plan, r.program, r, n, fn, args)
	if e != api.OK || n != len(r.threads) {
		r.t.Fatalf("thread %d of %d: %d", n, len(r.threads), e)
	}
	m.Inherit(by)
	p, _ := r.a.Port(n)
	r.threads, r.ports = append(r.threads, m), append(r.ports, p)
}

func (r *rig) Raise(n int) { r.threads[n].Start() }

func (r *rig) Tell(t int, n int64) bool {
	if len(r.outputs) >= api.MaxOutputs {
		return false
	}
	r.outputs = append(r.outputs, api.Output{Thread: t, N: n})
	return true
}

func (r *rig) Gone(t int) bool { return r.threads[t].Gone() }

func (r *rig) Collect() {
	r.port.Grant()
	r.c.Step(r.port)
}

// pick: a thread, or the collector, makes a step, with one access at most.
func (r *rig) pick(who int) mutator.Turn {
	before := r.a.Count()
	var turn mutator.Turn
	if who == gatherer {
		r.port.Grant()
		if did := r.c.Step(r.port); !did || r.a.Count() != before+1 {
			r.t.Fatalf("the collector's step: %v, %d accesses", did, r.a.Count()-before)
		}
	} else {
		r.ports[who].Grant()
		turn = r.threads[who].Step(r.ports[who])
	}
	if n := r.a.Count() - before; n > 1 || r.a.Faults() > 0 {
		r.t.Fatalf("%d accesses in a step of %d, %d faults", n, who, r.a.Faults())
	}
	return turn
}

// over: are all threads gone?
func (r *rig) over() bool {
	for _, m := range r.threads {
		if !m.Gone() {
			return false
		}
	}
	return true
}

// peek: what a cell holds.
func (r *rig) peek(at int) uint64 {
	v, e := r.a.Peek(at)
	if e != api.OK {
		r.t.Fatal(at, e)
	}
	return v
}
