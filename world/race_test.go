package world_test

import (
	"testing"

	"windrow/api"
	"windrow/code"
	"windrow/collect"
	"windrow/layout"
	"windrow/mutator"
	"windrow/world"
)

// tight: a heap of so many pages, with rings and a stack of one place.
func tight(pages, threads int) world.Config {
	return world.Config{Pages: pages, Threads: threads, Ring: 1, Marks: 1}
}

// upTo makes picks of a thread until an instruction of that name takes effect.
func (w *watch) upTo(who int, name string) api.Event {
	w.Helper()
	for range 1000 {
		if turn := w.pick(who); turn.Done && turn.Event.Op == code.Find(name) {
			return turn.Event
		}
	}
	w.Fatalf("thread %d: no %s: %+v", who, name, w.view.Threads[who])
	return api.Event{}
}

// gather makes so many picks of the collector.
func (w *watch) gather(n int) {
	w.Helper()
	for range n {
		w.pick(world.Gatherer)
	}
}

// cell: what one holds.
func (w *watch) cell(at int) uint64 { return w.w.Image()[at] }

// shake has the collector begin the next handshake, that of a phase.
func (w *watch) shake(phase int) {
	w.Helper()
	epoch := w.cell(layout.Epoch)
	for n := 0; w.cell(layout.Epoch) == epoch; n++ {
		if n > 500 {
			w.Fatalf("phase %d: no handshake", w.view.Phase)
		}
		w.gather(1)
	}
	if w.view.Phase != phase {
		w.Fatalf("phase %d, not %d", w.view.Phase, phase)
	}
}

// shakeAll goes on to behind the handshakes Arm, Scan and Blend; each thread responds by a poll.
func (w *watch) shakeAll(threads int) {
	w.Helper()
	for _, phase := range []int{collect.Arming, collect.Scanning, collect.Blending} {
		w.shake(phase)
		for i := range threads {
			w.upTo(i, "poll")
		}
	}
}

// complete makes picks until the cycle that goes on is completed, mostly of the collector.
func (w *watch) complete() {
	w.Helper()
	cycles := w.view.Cycles
	for range 1000 {
		for i := range w.w.Count() {
			if w.view.Cycles > cycles {
				return
			}
			w.pick(i)
		}
		w.gather(20)
	}
	w.Fatalf("the cycle doesn't end: phase %d", w.view.Phase)
}

// reaches: is what a thread's local refers to reached?
func (w *watch) reaches(who, local int) bool {
	w.Helper()
	f := w.view.Threads[who].Frames[0]
	return f.Locals[local].Type == api.Ref && w.reached[f.Locals[local].N]
}

const (
	// row: global 0 refers to a node, that to another one, and that to a third one.
	row = "new node\nsetglobal 0\nglobal 0\nnew node\nput node a\nglobal 0\nget node a\nnew node\nput node a\n"
	// rest goes on with polls alone, for long enough.
	rest = "rest:\npoll\njump rest\nend\n"
)

// P21.2: what a thread takes out of where it stood, when it has been scanned and nothing is marked yet, isn't freed.
func TestTakenOut(t *testing.T) {
	for _, take := range []string{
		"global 0\nget node a\nstore 0\nglobal 0\nnull\nput node a\n",
		"global 0\nget node a\nstore 0\nglobal 0\nload 0\nnull\ncas node a\ndrop\n",
		"global 1\nconst 2\nrefat\nstore 0\nglobal 1\nconst 2\nnull\nsetref\n",
		"global 0\nstore 0\nnull\nsetglobal 0\n",
		"global 0\nstore 0\nglobal 1\nconst 2\nrefat\nsetglobal 0\n",
	} {
		w := watched(t, checked(t, "class node a:ref\nfunc main\nlocals ref\npoll\n"+row+"const 3\nnewrefs\nsetglobal 1\nglobal 1\nconst 2\nnew node\nsetref\n"+
			"collect\npoll\npoll\n"+take+"const 1\nout\n"+rest), tight(3, 1))
		w.upTo(0, "collect")
		w.shake(collect.Arming)
		w.upTo(0, "poll")
		w.shake(collect.Scanning)
		w.upTo(0, "poll")
		if len(w.view.Roots) != api.Globals || len(w.view.Marked) != 0 {
			t.Fatal(w.view.Roots, w.view.Marked)
		}
		w.upTo(0, "out")
		w.complete()
		if !w.reaches(0, 0) {
			t.Errorf("%q: %+v", take, w.view)
		}
	}
}

// P21.2: a thread may stand still with an object that it has marked, and not yet told of, till all else is examined; in the first cycle and in a later one.
func TestAmidShading(t *testing.T) {
	w := watched(t, checked(t, "class node a:ref\nfunc main\nlocals ref int\npoll\nmore:\npoll\n"+row+"collect\npoll\npoll\npoll\n"+
		"global 0\nget node a\nstore 0\nglobal 0\nnull\nput node a\nconst 90\nstore 1\nwait:\npoll\nload 1\nconst 1\nsub\ndup\nstore 1\njumpif wait\nnull\nstore 0\njump more\nend\n"), tight(2, 1))
	for range 3 {
		w.upTo(0, "collect")
		w.shakeAll(1)
		w.upTo(0, "put")
		marked := len(w.view.Marked)
		for len(w.view.Marked) == marked {
			w.pick(0)
		}
		w.gather(300)
		if w.view.Phase != collect.Checking || len(w.view.Flight) == 0 {
			t.Fatal(w.view.Phase, w.view.Flight)
		}
		w.complete()
		if !w.reaches(0, 0) {
			t.Error("it has lost what it took")
		}
	}
}

// P21.2: a thread shades on behind the handshake Check, since another one may stand still amid shading.
func TestShadesOn(t *testing.T) {
	take := "global 0\nget node a\nstore 0\n"
	w := watched(t, checked(t, "class node a:ref\nfunc main\nlocals ref ref int\npoll\n"+row+"spawn other\nstore 2\ncollect\npoll\npoll\npoll\n"+
		take+"poll\nload 0\nget node a\nstore 1\nload 0\nnull\nput node a\nnull\nstore 0\nconst 1\nout\n"+rest+
		"func other\nlocals ref\npoll\npoll\npoll\n"+take+"global 0\nnull\nput node a\n"+rest), tight(2, 2))
	w.upTo(0, "collect")
	w.shakeAll(2)
	w.upTo(0, "store")
	w.upTo(1, "put")
	w.pick(1)
	w.shake(collect.Checking)
	w.upTo(0, "poll")
	w.upTo(0, "out")
	w.complete()
	if !w.reaches(0, 1) || !w.reaches(1, 0) {
		t.Errorf("%+v", w.view)
	}
}

// P21.2: a thread that is begun amid a cycle shades as the one does that begins it.
func TestBegunAmid(t *testing.T) {
	w := watched(t, checked(t, "class node a:ref\nfunc main\nlocals int\npoll\n"+row+"collect\npoll\npoll\npoll\nspawn other\nstore 0\n"+rest+
		"func other\nlocals ref\npoll\nglobal 0\nget node a\nstore 0\nglobal 0\nnull\nput node a\nconst 1\nout\n"+rest), tight(2, 2))
	w.upTo(0, "collect")
	w.shakeAll(1)
	w.upTo(0, "store")
	w.upTo(1, "out")
	w.complete()
	if !w.reaches(1, 0) {
		t.Errorf("%+v", w.view)
	}
}

// P21.2: a thread that is there already responds even if one ahead of it isn't there yet: it has what the one that began it has no longer.
func TestSpawnRace(t *testing.T) {
	w := watched(t, checked(t, "class node a:ref\nfunc main\nlocals int\npoll\nspawn second\nstore 0\ncollect\npoll\npoll\nspawn third\nstore 0\n"+rest+
		"func second\nlocals ref int\npoll\nnew node\nstore 0\npoll\nload 0\nspawn fourth\nstore 1\nnull\nstore 0\npoll\n"+rest+
		"func third\npoll\n"+rest+"func fourth ref\npoll\n"+rest), tight(2, 4))
	w.upTo(0, "collect")
	w.upTo(1, "new")
	w.upTo(1, "store")
	w.shake(collect.Arming)
	w.upTo(0, "poll")
	w.upTo(1, "poll")
	w.shake(collect.Scanning)
	// The first thread has responded, and its new one isn't there yet; the second one's is, before the second one responds.
	w.upTo(0, "poll")
	w.upTo(0, "spawn")
	w.upTo(1, "spawn")
	w.upTo(1, "poll")
	if w.w.Count() != 4 || w.cell(w.plan.Status(2)) != mutator.Absent || w.cell(w.plan.Status(3)) != mutator.Runs || w.reaches(1, 0) {
		t.Fatalf("%+v", w.view)
	}
	if turn := w.pick(2); turn != (world.Turn{}) {
		t.Errorf("a thread that may not go on yet: %+v", turn)
	}
	w.gather(200)
	w.complete()
	if !w.reaches(3, 0) {
		t.Errorf("%+v", w.view)
	}
}

// P21.3: a thread that has responded, and then waits for another one's end, doesn't respond twice: what it makes and drops later would be left by the next cycle.
func TestRespondsOnce(t *testing.T) {
	w := watched(t, checked(t, "class node a:ref\nfunc main\nlocals int\npoll\nspawn other\nstore 0\ncollect\npoll\npoll\npoll\npoll\npoll\npoll\nload 0\njoin\nstore 0\nnew node\ndrop\nnew node\ndrop\npoll\ncollect\n"+rest+
		"func other -> int\npoll\npoll\npoll\npoll\npoll\npoll\npoll\nconst 3\nreturn\nend\n"), tight(2, 2))
	w.upTo(0, "collect")
	w.shakeAll(2)
	for _, phase := range []int{collect.Checking, collect.Quieting} {
		w.shake(phase)
		w.upTo(0, "poll")
		w.upTo(1, "poll")
	}
	w.shake(collect.Closing)
	w.upTo(0, "poll")
	for w.cell(w.plan.Status(0)) != mutator.Parked {
		w.pick(0)
	}
	w.gather(30)
	w.complete()
	// The other one ends.
	for range 40 {
		w.pick(1)
	}
	w.upTo(0, "collect")
	for w.view.Phase == collect.Idle {
		w.gather(1)
	}
	w.complete()
	if len(w.view.Cells) != 0 || w.freed != 2 || w.w.Freed() != 2 {
		t.Errorf("%d freed: %+v", w.w.Freed(), w.view.Cells)
	}
}
