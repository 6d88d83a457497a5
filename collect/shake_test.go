package collect_test

import (
	"slices"
	"testing"

	"windrow/api"
	"windrow/arena"
	"windrow/collect"
	"windrow/header"
	"windrow/layout"
	"windrow/mutator"
	"windrow/tlab"
)

// handshakes are the phases in which threads respond.
func handshakes() []int {
	return []int{collect.Arming, collect.Scanning, collect.Blending, collect.Checking, collect.Quieting, collect.Closing}
}

// A thread that runs must have the handshake's number in its Ack; the others are waited for one behind the other.
func TestWaits(t *testing.T) {
	b := benched(t, planned(t, 1, 4, 1), 1)
	b.quick = false
	status := []uint64{mutator.Runs, mutator.Gone, mutator.Runs, mutator.Absent}
	for n, v := range status {
		b.poke(b.plan.Status(n), v)
	}
	b.poke(layout.Count, 3)
	b.poke(layout.Request, 1)
	for _, phase := range handshakes() {
		b.upTo(phase)
		b.step()
		epoch := b.peek(layout.Epoch)
		b.stuck(phase)
		// The other one's response alone isn't enough, nor is another number.
		b.poke(b.plan.Ack(2), epoch)
		b.stuck(phase)
		for _, wrong := range []uint64{0, epoch - 1, epoch + 8, epoch % 8} {
			b.poke(b.plan.Ack(0), wrong)
			b.stuck(phase)
		}
		b.poke(b.plan.Ack(0), epoch)
		b.poke(b.plan.Ack(2), epoch-8)
		b.stuck(phase)
		b.poke(b.plan.Ack(2), epoch)
		for range 60 {
			if b.c.Phase() != phase {
				break
			}
			b.step()
		}
		if b.c.Phase() == phase || b.peek(b.plan.Ack(1)) != 0 || b.peek(b.plan.Ack(3)) != 0 {
			t.Errorf("phase %d doesn't end", phase)
		}
	}
	b.upTo(collect.Idle)
	for n, v := range status {
		if b.peek(b.plan.Status(n)) != v {
			t.Error(n, b.peek(b.plan.Status(n)))
		}
	}
	if len(b.asked) != 0 {
		t.Error(b.asked)
	}
}

// Threads come and go while they are waited for: one that leaves is skipped, one that stops running is served, one that isn't there yet ends the handshake.
func TestComeAndGo(t *testing.T) {
	b := benched(t, planned(t, 1, 3, 1), 1)
	b.quick = false
	b.subjects[1] = &subject{}
	b.poke(b.plan.Status(0), mutator.Runs)
	b.poke(b.plan.Status(1), mutator.Runs)
	b.poke(layout.Count, 3)
	b.poke(layout.Request, 1)
	b.upTo(collect.Arming)
	b.stuck(collect.Arming)
	b.poke(b.plan.Status(0), mutator.Gone)
	b.stuck(collect.Arming)
	if len(b.asked) != 0 {
		t.Error(b.asked)
	}
	b.poke(b.plan.Status(1), mutator.Parked)
	b.upTo(collect.Scanning)
	if !slices.Equal(b.subjects[1].served, []uint64{8 + mutator.Arm}) {
		t.Error(b.subjects[1].served)
	}
	// It runs again.
	b.poke(b.plan.Status(1), mutator.Runs)
	b.stuck(collect.Scanning)
	b.poke(b.plan.Ack(1), b.peek(layout.Epoch))
	b.upTo(collect.Blending)
	// And begins another one, which must respond from the next handshake on.
	b.poke(b.plan.Status(2), mutator.Runs)
	b.poke(b.plan.Status(1), mutator.Gone)
	b.stuck(collect.Blending)
	b.poke(b.plan.Ack(2), b.peek(layout.Epoch))
	b.upTo(collect.Checking)
	b.poke(b.plan.Status(2), mutator.Gone)
	b.upTo(collect.Idle)
}

// A thread that isn't there yet isn't waited for; but one that is there behind it is: it may have been begun ahead of the handshake.
func TestGap(t *testing.T) {
	for _, x := range []struct {
		status  []uint64
		count   uint64
		waits   []int // for whom
		threads int
	}{
		{[]uint64{1, 0, 0, 0}, 1, []int{0}, 4},
		{[]uint64{1, 0, 0, 0}, 2, []int{0}, 4},
		{[]uint64{1, 0, 0, 0}, 4, []int{0}, 4},
		{[]uint64{1, 0, 1, 0}, 3, []int{0, 2}, 4},
		{[]uint64{1, 0, 0, 1}, 4, []int{0, 3}, 4},
		{[]uint64{1, 1, 0, 1}, 4, []int{0, 1, 3}, 4},
		{[]uint64{0, 0, 0, 0}, 0, nil, 4},
		{[]uint64{4, 4, 0}, 1 << 60, nil, 3},
		{[]uint64{4, 4, 4}, 3, nil, 3},
		{[]uint64{1, 1, 1}, 3, []int{0, 1, 2}, 3},
	} {
		b := benched(t, planned(t, 1, x.threads, 1), 1)
		b.quick = false
		for n, v := range x.status {
			b.poke(b.plan.Status(n), v)
		}
		b.poke(layout.Count, x.count)
		b.poke(layout.Request, 1)
		for _, phase := range handshakes() {
			b.upTo(phase)
			for _, n := range x.waits {
				b.stuck(phase)
				b.poke(b.plan.Ack(n), b.peek(layout.Epoch))
			}
		}
		b.upTo(collect.Idle)
	}
}

// For a thread that waits for another one the collector responds, and leaves it as it was.
func TestServes(t *testing.T) {
	b := benched(t, planned(t, 2, 3, 2), 3)
	var made []int64
	for range 4 {
		made = append(made, b.lay(header.Head{Kind: api.Ints, Len: 1}))
	}
	b.subjects[1] = &subject{roots: []int64{made[0], 0, made[1], made[0]}}
	serving := func(n int) func(epoch uint64) {
		return func(epoch uint64) {
			if b.peek(b.plan.Status(n)) != mutator.Served || b.peek(b.plan.Ack(n)) != epoch || b.peek(layout.Epoch) != epoch {
				t.Errorf("Serve(%d) of thread %d: Status %d, Ack %d", epoch, n, b.peek(b.plan.Status(n)), b.peek(b.plan.Ack(n)))
			}
			if scanned := epoch%8 == mutator.Scan; scanned && !(b.marked(made[0]) && b.marked(made[1])) || scanned && n == 2 && !b.marked(made[2]) {
				t.Error("its roots aren't marked yet")
			}
		}
	}
	b.subjects[1].serve = serving(1)
	b.subjects[2] = &subject{roots: []int64{made[2]}, serve: serving(2)}
	b.poke(b.plan.Status(0), mutator.Runs)
	b.poke(b.plan.Status(1), mutator.Parked)
	b.poke(b.plan.Status(2), mutator.Parked)
	b.poke(layout.Count, 3)
	b.poke(b.plan.Tail(1), 0)
	for cycle := range uint64(2) {
		b.cycle()
		var want []uint64
		for n, kind := range []uint64{mutator.Arm, mutator.Scan, mutator.Blend, mutator.Check, mutator.Quiet, mutator.Off} {
			want = append(want, 8*(6*cycle+uint64(n)+1)+kind)
		}
		for _, n := range []int{1, 2} {
			got := b.subjects[n].served
			if !slices.Equal(got[len(got)-6:], want) || len(got) != 6*int(cycle+1) || b.peek(b.plan.Status(n)) != mutator.Parked || b.peek(b.plan.Ack(n)) != want[5] {
				t.Errorf("thread %d: %v, not %v", n, got, want)
			}
		}
	}
	if !b.allocated(made[0]) || !b.allocated(made[1]) || !b.allocated(made[2]) || b.allocated(made[3]) || b.c.Freed() != 1 {
		t.Error("what was freed", b.c.Freed())
	}
}

// A thread that responded itself, and waits since then, is not served for the same handshake.
func TestServedOnce(t *testing.T) {
	b := benched(t, planned(t, 1, 2, 1), 1)
	b.quick = false
	b.subjects[1] = &subject{retire: func() *tlab.Retire { t.Error("it has given back its pages itself"); return nil }}
	b.poke(b.plan.Status(0), mutator.Runs)
	b.poke(b.plan.Status(1), mutator.Runs)
	b.poke(layout.Count, 2)
	b.poke(layout.Request, 1)
	for _, phase := range handshakes() {
		b.upTo(phase)
		b.step()
		b.poke(b.plan.Ack(1), b.peek(layout.Epoch))
		b.poke(b.plan.Status(1), mutator.Parked)
		b.stuck(phase)
		b.poke(b.plan.Ack(0), b.peek(layout.Epoch))
		for b.c.Phase() == phase {
			b.step()
		}
		if len(b.subjects[1].served) != 0 || b.peek(b.plan.Status(1)) != mutator.Parked {
			t.Errorf("phase %d: %v", phase, b.subjects[1].served)
		}
		b.poke(b.plan.Status(1), mutator.Runs)
	}
	b.upTo(collect.Idle)
}

// The thread may go on before the collector takes it; it may not while it is served.
func TestServeRace(t *testing.T) {
	b := benched(t, planned(t, 1, 2, 1), 1)
	b.quick = false
	b.subjects[0] = &subject{}
	b.poke(b.plan.Status(0), mutator.Parked)
	b.poke(layout.Count, 1)
	b.poke(layout.Request, 1)
	b.upTo(collect.Arming)
	b.step() // Epoch
	b.step() // Status
	b.poke(b.plan.Status(0), mutator.Runs)
	b.stuck(collect.Arming)
	if len(b.subjects[0].served) != 0 || b.peek(b.plan.Status(0)) != mutator.Runs || b.peek(b.plan.Ack(0)) != 0 {
		t.Error(b.subjects[0].served, b.peek(b.plan.Status(0)))
	}
	b.poke(b.plan.Status(0), mutator.Parked)
	for len(b.subjects[0].served) == 0 {
		b.step()
	}
	if b.peek(b.plan.Status(0)) != mutator.Served {
		t.Error(b.peek(b.plan.Status(0)))
	}
	b.upTo(collect.Scanning)
	if b.peek(b.plan.Status(0)) != mutator.Parked {
		t.Error(b.peek(b.plan.Status(0)))
	}
}

// For Off the pages of a thread that waits are given back before its Ack is stored.
func TestServeOff(t *testing.T) {
	for held := range 4 {
		b := benched(t, planned(t, 4, 1, 1), 1)
		buffers, e := tlab.New(b.plan, 0, 0)
		if e != api.OK {
			t.Fatal(e)
		}
		for n := range held {
			made, _ := tlab.NewAlloc(buffers, header.Head{Kind: api.Ints, Len: 1 << (2 * n)})
			for b.p.Grant(); !made.Step(b.p); b.p.Grant() {
			}
		}
		b.subjects[0] = &subject{retire: func() *tlab.Retire { return tlab.NewRetire(buffers) }}
		b.subjects[0].serve = func(epoch uint64) {
			n := 0
			for range buffers.Held() {
				n++
			}
			if off := epoch%8 == mutator.Off; off != (n == 0) && held > 0 {
				t.Errorf("Serve(%d) with %d pages", epoch, n)
			}
		}
		b.poke(b.plan.Status(0), mutator.Parked)
		b.poke(layout.Count, 1)
		b.cycle()
		if b.c.Freed() != held || len(b.subjects[0].served) != 6 {
			t.Error(b.c.Freed(), b.subjects[0].served)
		}
	}
}

// A thread that can't be found is responded for all the same; so is one that is nil.
func TestNobody(t *testing.T) {
	b := benched(t, planned(t, 1, 2, 1), 1)
	b.poke(b.plan.Status(0), mutator.Parked)
	b.poke(layout.Count, 1)
	b.cycle()
	if b.peek(b.plan.Ack(0)) != 48+mutator.Off || b.peek(b.plan.Status(0)) != mutator.Parked || !slices.Contains(b.asked, 0) || slices.Contains(b.asked, 1) {
		t.Error(b.peek(b.plan.Ack(0)), b.asked)
	}
	c, _ := collect.New(b.plan, b.table, 1, func(int) collect.Subject { return (*mutator.Mutator)(nil) })
	a, _ := arena.New(b.plan.Cells(), false)
	p, _ := a.Port(api.CollectorID)
	a.Poke(b.plan.Status(0), mutator.Parked)
	a.Poke(layout.Request, 1)
	for range 500 {
		p.Grant()
		c.Step(p)
	}
	if c.Cycles() != 1 {
		t.Error(c.Cycles(), c.Phase())
	}
}
