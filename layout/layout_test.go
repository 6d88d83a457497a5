package layout_test

import (
	"math"
	"testing"

	"windrow/api"
	"windrow/layout"
)

// The kinds, as the chapter numbers them: the constants' names are held against these.
const (
	none = iota
	shared
	global
	thread
	slot
	entry
	alloc
	mark
	heap
)

// cells is what each cell of a plan is for, laid one after the other as the chapter's table says: what the functions are held against.
func cells(p layout.Plan) []layout.Spot {
	var l []layout.Spot
	add := func(kind, i, j int) { l = append(l, layout.Spot{Kind: kind, I: i, J: j}) }
	add(none, 0, 0)
	for i := 1; i <= 6; i++ {
		add(shared, i, 0)
	}
	add(none, 0, 0)
	for i := range 8 {
		add(global, i, 0)
	}
	for t := range p.Threads {
		for j := range 5 {
			add(thread, t, j)
		}
		for j := range p.Ring {
			add(slot, t, j)
		}
	}
	for _, kind := range []int{entry, alloc, mark} {
		for i := range p.Pages {
			add(kind, i, 0)
		}
	}
	for len(l)%64 != 0 {
		add(none, 0, 0)
	}
	for i := range p.Pages {
		for j := range 64 {
			add(heap, i, j)
		}
	}
	return l
}

// plans: all that are valid.
func plans(yield func(layout.Plan) bool) {
	for pages := 1; pages <= 32; pages++ {
		for threads := 1; threads <= 6; threads++ {
			for ring := 1; ring <= 16; ring++ {
				if !yield(layout.Plan{Pages: pages, Threads: threads, Ring: ring}) {
					return
				}
			}
		}
	}
}

// some: the valid plans at the limits, those whose tables end at a multiple of 64 or beside one, and some between.
func some(yield func(layout.Plan) bool) {
	n := 0
	for p := range plans {
		n++
		behind := 16 + p.Threads*(5+p.Ring) + 3*p.Pages
		beside := (behind+1)%64 <= 2
		edge := (p.Pages == 1 || p.Pages == 32) && (p.Threads == 1 || p.Threads == 6) && (p.Ring == 1 || p.Ring == 16)
		if (edge || beside && n%5 == 0 || n%97 == 0) && !yield(p) {
			return
		}
	}
}

// wrongs: numbers that are no index and no count anywhere.
func wrongs() []int {
	return []int{math.MinInt, math.MinInt + 1, -1 << 32, -65, -64, -2, -1, 1 << 16, 1 << 32, 1<<32 + 1, 1<<32 + 64, math.MaxInt - 64, math.MaxInt - 1, math.MaxInt}
}

// badPlans: plans of which one number, or each, is out of its range.
func badPlans() []layout.Plan {
	l := []layout.Plan{{}, {Pages: -1, Threads: -1, Ring: -1}, {Pages: 33, Threads: 7, Ring: 17}, {Pages: math.MaxInt, Threads: math.MaxInt, Ring: math.MaxInt}, {Pages: math.MinInt, Threads: math.MinInt, Ring: math.MinInt}}
	for _, n := range append(wrongs(), 0) {
		l = append(l, layout.Plan{Pages: n, Threads: 1, Ring: 1}, layout.Plan{Pages: 1, Threads: n, Ring: 1}, layout.Plan{Pages: 1, Threads: 1, Ring: n})
	}
	return append(l,
		layout.Plan{Pages: 33, Threads: 1, Ring: 1}, layout.Plan{Pages: 1, Threads: 7, Ring: 1}, layout.Plan{Pages: 1, Threads: 1, Ring: 17},
		layout.Plan{Pages: 32, Threads: 6, Ring: 0}, layout.Plan{Pages: 32, Threads: 0, Ring: 16}, layout.Plan{Pages: 0, Threads: 6, Ring: 16})
}

func TestExamples(t *testing.T) {
	p, e := layout.New(2, 1, 4)
	if p != (layout.Plan{Pages: 2, Threads: 1, Ring: 4}) || e != api.OK {
		t.Fatal(p, e)
	}
	if p.Status(0) != 16 || p.Slot(0, 5) != 22 || p.Entry(0) != 25 || p.Mark(1) != 30 {
		t.Error(p.Status(0), p.Slot(0, 5), p.Entry(0), p.Mark(1))
	}
	if p.Base() != 64 || p.Cells() != 192 || p.Addr(1, 3) != 131 {
		t.Error(p.Base(), p.Cells(), p.Addr(1, 3))
	}
	if page, at := p.Place(131); page != 1 || at != 3 {
		t.Error(page, at)
	}
	if s := p.Find(31); s != (layout.Spot{}) {
		t.Error(s)
	}
}

func TestConstants(t *testing.T) {
	first := []int{layout.Null, layout.Epoch, layout.Cycle, layout.Request, layout.Over, layout.Done, layout.Count, layout.Spare}
	kinds := []int{layout.IsNone, layout.IsShared, layout.IsGlobal, layout.IsThread, layout.IsSlot, layout.IsEntry, layout.IsAlloc, layout.IsMark, layout.IsHeap}
	for i, n := range first {
		if n != i {
			t.Error("cell", i, n)
		}
	}
	for i, n := range kinds {
		if n != i {
			t.Error("kind", i, n)
		}
	}
}

// P6.1: New returns the plan with these numbers if it is valid.
func TestNew(t *testing.T) {
	for p := range plans {
		if got, e := layout.New(p.Pages, p.Threads, p.Ring); got != p || e != api.OK {
			t.Fatalf("New(%+v) = %+v, %d", p, got, e)
		}
	}
	for _, p := range badPlans() {
		if got, e := layout.New(p.Pages, p.Threads, p.Ring); got != (layout.Plan{}) || e != api.ErrArg {
			t.Errorf("New(%+v) = %+v, %d", p, got, e)
		}
	}
}

// P6.1: where the heap begins and ends.
func TestBaseAndCells(t *testing.T) {
	for p := range plans {
		l := cells(p)
		if p.Cells() != len(l) || p.Base() != len(l)-64*p.Pages || p.Cells() > api.MaxCells {
			t.Fatalf("%+v: base %d, cells %d, not %d", p, p.Base(), p.Cells(), len(l))
		}
	}
	for _, known := range []struct {
		p           layout.Plan
		base, cells int
	}{
		// 16 + 6 + 3 = 25; 16 + 6 * 21 + 96 = 238; 16 + 21 + 27 = 64; 16 + 18 + 30 = 64; 16 + 22 + 27 = 65.
		{layout.Plan{Pages: 1, Threads: 1, Ring: 1}, 64, 128},
		{layout.Plan{Pages: 32, Threads: 6, Ring: 16}, 256, 2304},
		{layout.Plan{Pages: 9, Threads: 1, Ring: 16}, 64, 640},
		{layout.Plan{Pages: 10, Threads: 3, Ring: 1}, 64, 704},
		{layout.Plan{Pages: 9, Threads: 2, Ring: 6}, 128, 704},
	} {
		if known.p.Base() != known.base || known.p.Cells() != known.cells {
			t.Errorf("%+v: base %d, cells %d", known.p, known.p.Base(), known.p.Cells())
		}
	}
}

// P6.1 and P6.2: Find says of each cell what the table says, and nothing of any other number.
func TestFind(t *testing.T) {
	for p := range plans {
		l := cells(p)
		for at, want := range l {
			if got := p.Find(at); got != want {
				t.Fatalf("%+v: Find(%d) = %+v, not %+v", p, at, got, want)
			}
		}
		for _, at := range append(wrongs(), len(l), len(l)+1, len(l)+64, 4095, 4096) {
			if got := p.Find(at); got != (layout.Spot{}) {
				t.Fatalf("%+v: Find(%d) = %+v", p, at, got)
			}
		}
	}
}

// called: the cell that the plan's own call gives for a spot; false: there is no call for it.
func called(p layout.Plan, s layout.Spot) (int, bool) {
	switch s.Kind {
	case global:
		return p.Global(s.I), true
	case thread:
		return []func(int) int{p.Status, p.Ack, p.Result, p.Head, p.Tail}[s.J](s.I), true
	case slot:
		return p.Slot(s.I, uint64(s.J)), true
	case entry:
		return p.Entry(s.I), true
	case alloc:
		return p.Alloc(s.I), true
	case mark:
		return p.Mark(s.I), true
	case heap:
		return p.Addr(s.I, s.J), true
	}
	return 0, false
}

// P6.1 and P6.2: each thing has the cell in which the table has it.
func TestEachThingHasItsCell(t *testing.T) {
	for p := range plans {
		for at, s := range cells(p) {
			if got, known := called(p, s); known && got != at {
				t.Fatalf("%+v: %+v is in %d, not in %d", p, s, got, at)
			}
		}
	}
}

// things: the cells of all things of a plan, by its exported functions and constants alone.
func things(p layout.Plan) []int {
	l := []int{layout.Epoch, layout.Cycle, layout.Request, layout.Over, layout.Done, layout.Count}
	for i := range api.Globals {
		l = append(l, p.Global(i))
	}
	for t := range p.Threads {
		l = append(l, p.Status(t), p.Ack(t), p.Result(t), p.Head(t), p.Tail(t))
		for n := range p.Ring {
			l = append(l, p.Slot(t, uint64(n)))
		}
	}
	for i := range p.Pages {
		l = append(l, p.Entry(i), p.Alloc(i), p.Mark(i))
		for at := range api.PageWords {
			l = append(l, p.Addr(i, at))
		}
	}
	return l
}

// P6.2: no cell is that of two things, none is that of nothing, and what has no thing is found as none.
func TestNoTwoThingsHaveTheSameCell(t *testing.T) {
	for p := range plans {
		used := make([]bool, p.Cells())
		for _, at := range things(p) {
			if at < 0 || at >= len(used) || used[at] || at == layout.Null || at == layout.Spare {
				t.Fatalf("%+v: cell %d", p, at)
			}
			used[at] = true
		}
		for at, is := range used {
			if is != (p.Find(at).Kind != layout.IsNone) {
				t.Fatalf("%+v: cell %d is used: %v, but it is found as %+v", p, at, is, p.Find(at))
			}
		}
	}
}

// P6.1: Place is the way back from Addr; what isn't of the heap has no place.
func TestPlaceAndRef(t *testing.T) {
	for p := range plans {
		for at, s := range cells(p) {
			page, word := p.Place(at)
			if s.Kind == heap && (page != s.I || word != s.J) || s.Kind != heap && (page != -1 || word != -1) {
				t.Fatalf("%+v: Place(%d) = %d, %d", p, at, page, word)
			}
			if p.Ref(uint64(at)) != (s.Kind == heap) {
				t.Fatalf("%+v: Ref(%d) = %v", p, at, p.Ref(uint64(at)))
			}
		}
	}
	for p := range some {
		for _, at := range append(wrongs(), p.Cells(), p.Cells()+1, p.Cells()+63, 4095, 4096) {
			if page, word := p.Place(at); page != -1 || word != -1 {
				t.Errorf("%+v: Place(%d) = %d, %d", p, at, page, word)
			}
			if p.Ref(uint64(at)) {
				t.Errorf("%+v: Ref(%d)", p, uint64(at))
			}
		}
	}
}

// P6.1: a word whose low bits are those of a reference is none itself.
func TestRefOfWideWords(t *testing.T) {
	for p := range some {
		for _, at := range []int{p.Base(), p.Base() + 1, p.Cells() - 1} {
			if !p.Ref(uint64(at)) {
				t.Errorf("%+v: Ref(%d)", p, at)
			}
			for bit := 12; bit < 64; bit++ {
				if w := uint64(at) | 1<<bit; p.Ref(w) {
					t.Errorf("%+v: Ref(%x)", p, w)
				}
			}
			if p.Ref(-uint64(at)) || p.Ref(^uint64(at)) {
				t.Errorf("%+v: Ref of -%d", p, at)
			}
		}
		if p.Ref(math.MaxUint64) || p.Ref(1<<63) || p.Ref(0) {
			t.Errorf("%+v: Ref of what is no cell", p)
		}
	}
}

// P6.1: a slot's number goes round, up to the greatest count.
func TestSlotGoesRound(t *testing.T) {
	for p := range some {
		ring := uint64(p.Ring)
		for th := range p.Threads {
			for _, n := range []uint64{0, 1, ring - 1, ring, ring + 1, 2*ring + 3, 1 << 31, 1<<32 + 1, 1<<62 - 1, 1<<63 - 1, 1 << 63, 1<<63 + 5, math.MaxUint64 - 1, math.MaxUint64} {
				want := p.Tail(th) + 1 + int(n-n/ring*ring)
				if got := p.Slot(th, n); got != want {
					t.Errorf("%+v: Slot(%d, %d) = %d, not %d", p, th, n, got, want)
				}
			}
		}
	}
}

// ofThread: the calls that take a thread.
func ofThread(p layout.Plan) []func(int) int {
	return []func(int) int{p.Status, p.Ack, p.Result, p.Head, p.Tail, func(t int) int { return p.Slot(t, 0) }, func(t int) int { return p.Slot(t, math.MaxUint64) }}
}

// ofPage: the calls that take a page.
func ofPage(p layout.Plan) []func(int) int {
	return []func(int) int{p.Entry, p.Alloc, p.Mark, func(i int) int { return p.Addr(i, 0) }, func(i int) int { return p.Addr(i, 63) }}
}

// P6.1: what there isn't is at -1.
func TestNoSuchThing(t *testing.T) {
	for p := range plans {
		for _, i := range append(wrongs(), api.Globals, api.Globals+1) {
			if at := p.Global(i); at != -1 {
				t.Fatalf("%+v: Global(%d) = %d", p, i, at)
			}
		}
		for k, call := range ofThread(p) {
			for _, th := range append(wrongs(), p.Threads, p.Threads+1, 7) {
				if at := call(th); at != -1 {
					t.Fatalf("%+v: call %d of thread %d = %d", p, k, th, at)
				}
			}
		}
		for k, call := range ofPage(p) {
			for _, i := range append(wrongs(), p.Pages, p.Pages+1, 33) {
				if at := call(i); at != -1 {
					t.Fatalf("%+v: call %d of page %d = %d", p, k, i, at)
				}
			}
		}
		for _, word := range append(wrongs(), 64, 65, 128) {
			if at := p.Addr(0, word); at != -1 {
				t.Fatalf("%+v: Addr(0, %d) = %d", p, word, at)
			}
		}
	}
}

// P6.1: a plan that isn't valid has nothing anywhere, and asking it ends.
func TestPlansThatAreNotValid(t *testing.T) {
	indexes := append(wrongs(), 0, 1, 5, 16, 31, 63, 64, 100, 255, 256, 1000, 2303)
	for _, p := range badPlans() {
		if p.Cells() != 0 || p.Base() != -1 {
			t.Errorf("%+v: base %d, cells %d", p, p.Base(), p.Cells())
		}
		for _, i := range indexes {
			if p.Global(i) != -1 || p.Find(i) != (layout.Spot{}) || p.Ref(uint64(i)) {
				t.Errorf("%+v: of %d: %d, %+v, %v", p, i, p.Global(i), p.Find(i), p.Ref(uint64(i)))
			}
			if page, word := p.Place(i); page != -1 || word != -1 {
				t.Errorf("%+v: Place(%d) = %d, %d", p, i, page, word)
			}
			for k, call := range append(ofThread(p), ofPage(p)...) {
				if at := call(i); at != -1 {
					t.Errorf("%+v: call %d of %d = %d", p, k, i, at)
				}
			}
			for _, word := range indexes {
				if at := p.Addr(i, word); at != -1 {
					t.Errorf("%+v: Addr(%d, %d) = %d", p, i, word, at)
				}
			}
		}
	}
}
