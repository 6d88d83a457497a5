package objects_test

import (
	"math"
	"slices"
	"strconv"
	"testing"

	"windrow/api"
	"windrow/arena"
	"windrow/classes"
	"windrow/header"
	"windrow/layout"
	"windrow/objects"
)

const who = 7 // makes the accesses of these tests

// widths: the words of the cells of each size class, as chapter 5 lists them.
func widths() []int { return []int{2, 3, 4, 6, 8, 12, 16, 32} }

// plans: some that are valid, the smallest and the greatest among them.
func plans() []layout.Plan {
	return []layout.Plan{{Pages: 1, Threads: 1, Ring: 1}, {Pages: 2, Threads: 1, Ring: 4}, {Pages: 4, Threads: 2, Ring: 3}, {Pages: 5, Threads: 3, Ring: 16}, {Pages: 32, Threads: 6, Ring: 16}}
}

// badPlans: plans of which one number, or each, is out of its range.
func badPlans() []layout.Plan {
	l := []layout.Plan{{}, {Pages: 33, Threads: 1, Ring: 1}, {Pages: 1, Threads: 7, Ring: 1}, {Pages: 1, Threads: 1, Ring: 17}}
	for _, n := range []int{math.MinInt, -1, 0, 1 << 32, math.MaxInt} {
		l = append(l, layout.Plan{Pages: n, Threads: 1, Ring: 1}, layout.Plan{Pages: 1, Threads: n, Ring: 1}, layout.Plan{Pages: 1, Threads: 1, Ring: n}, layout.Plan{Pages: n, Threads: n, Ring: n})
	}
	return l
}

// badHeads: headers that there aren't.
func badHeads() []header.Head {
	l := []header.Head{{}, {Kind: api.Fields, Len: 16}, {Class: 16, Kind: api.Fields}, {Class: 1, Kind: api.Ints}, {Class: 1, Kind: api.Refs}, {Kind: api.Ints, Len: 256}, {Kind: api.Refs, Len: 1 << 32}}
	for _, n := range []int{math.MinInt, -1, 4, 256 + 2, 1<<32 + 2, math.MaxInt} {
		l = append(l, header.Head{Kind: n, Len: 1}, header.Head{Kind: api.Fields, Class: n + 1<<33}, header.Head{Kind: api.Ints, Len: -1}, header.Head{Kind: api.Refs, Len: math.MinInt})
	}
	return l
}

// heads: valid headers of all lengths.
func heads() []header.Head {
	var l []header.Head
	for class := range 16 {
		l = append(l, header.Head{Class: class, Kind: api.Fields, Len: 15 - class})
	}
	for n := range 256 {
		l = append(l, header.Head{Kind: api.Ints, Len: n}, header.Head{Kind: api.Refs, Len: n})
	}
	return l
}

// headWord: a header's word, put together as chapter 2 says.
func headWord(h header.Head) uint64 {
	return 0xA5<<56 + uint64(h.Len)<<16 + uint64(h.Class)<<8 + uint64(h.Kind)
}

// entry: an entry's word, put together in the same way.
func entry(kind, class, state, owner, cycle int) uint64 {
	return uint64(kind | class<<2 | state<<6 | owner<<8 | cycle<<16)
}

// table: 16 classes, the one with the number k has 15 - k fields, of which each third is a number.
func table(t *testing.T) *classes.Table {
	t.Helper()
	var l []api.Class
	for k := range 16 {
		c := api.Class{Name: "c" + strconv.Itoa(k)}
		for i := range 15 - k {
			kind := api.Ref
			if (i+k)%3 == 0 {
				kind = api.Int
			}
			c.Fields = append(c.Fields, api.Field{Name: "f" + strconv.Itoa(i), Type: kind})
		}
		l = append(l, c)
	}
	made, _, e := classes.New(l)
	if e != api.OK {
		t.Fatal(e)
	}
	return made
}

// arenaOf: an arena of a plan's cells that keeps its accesses; each cell holds another word than 0, and none a header's.
func arenaOf(t *testing.T, plan layout.Plan) *arena.Arena {
	t.Helper()
	a, e := arena.New(plan.Cells(), true)
	if e != api.OK {
		t.Fatalf("%+v: %d", plan, e)
	}
	for at := range plan.Cells() {
		a.Poke(at, uint64(at)*0x10001+1)
	}
	return a
}

func port(t *testing.T, a *arena.Arena) *arena.Port {
	t.Helper()
	p, e := a.Port(who)
	if e != api.OK {
		t.Fatal(e)
	}
	return p
}

func peek(t *testing.T, a *arena.Arena, at int) uint64 {
	t.Helper()
	v, e := a.Peek(at)
	if e != api.OK {
		t.Fatal(at, e)
	}
	return v
}

func newBuild(t *testing.T, plan layout.Plan, at int, h header.Head) *objects.Build {
	t.Helper()
	b, e := objects.NewBuild(plan, at, h)
	if b == nil || e != api.OK {
		t.Fatalf("NewBuild(%+v, %d, %+v) = %v, %d", plan, at, h, b, e)
	}
	return b
}

// logged: the accesses that an arena has kept.
func logged(a *arena.Arena) []api.Access {
	var l []api.Access
	for _, x := range a.Log() {
		l = append(l, x)
	}
	return l
}

func TestExample(t *testing.T) {
	plan := layout.Plan{Pages: 1, Threads: 1, Ring: 1}
	a, _ := arena.New(plan.Cells(), true)
	if plan.Base() != 64 {
		t.Fatal(plan.Base())
	}
	a.Poke(plan.Entry(0), entry(header.Small, 0, header.Owned, 0, 0))
	b, p := newBuild(t, plan, 66, header.Head{Kind: api.Ints, Len: 1}), port(t, a)
	for p.Grant(); !b.Step(p); p.Grant() {
	}
	if l := logged(a); !slices.Equal(l, []api.Access{
		{Who: who, Kind: api.AccStore, At: 67},
		{Who: who, Kind: api.AccStore, At: 66, Put: 0xA500000000010002, Left: 0xA500000000010002},
	}) {
		t.Error(l)
	}
	if c, e := objects.Look(a, plan, nil, 66); c.Addr != 0 || c.Kind != 0 || c.Words != nil || e != api.ErrAddr {
		t.Errorf("Look(66) ahead of its bit = %+v, %d", c, e)
	}
	a.Poke(plan.Alloc(0), 1<<2)
	if c, e := objects.Look(a, plan, nil, 66); c.Addr != 66 || c.Class != 0 || c.Kind != api.Ints || !slices.Equal(c.Words, []int64{0}) || e != api.OK {
		t.Errorf("Look(66) = %+v, %d", c, e)
	}
	if c, e := objects.Look(a, plan, nil, 67); c.Addr != 0 || c.Kind != 0 || c.Words != nil || e != api.ErrAddr {
		t.Errorf("Look(67) = %+v, %d", c, e)
	}
}

// allowed: as the chapter says it, cell by cell.
func allowed(plan layout.Plan, at, words int) bool {
	base, end := plan.Base(), plan.Cells()
	if at < base || at >= end {
		return false
	}
	if words > 32 {
		return (at-base)%64 == 0 && at+(words+63)/64*64 <= end
	}
	for k := at; k < at+words; k++ {
		if k >= end || (k-base)/64 != (at-base)/64 {
			return false
		}
	}
	return true
}

// P11.1: where an object of each length may be.
func TestPositions(t *testing.T) {
	for _, plan := range plans() {
		for _, n := range []int{0, 1, 2, 14, 15, 30, 31, 32, 33, 62, 63, 64, 65, 126, 127, 128, 129, 191, 192, 254, 255} {
			h := header.Head{Kind: api.Refs, Len: n}
			for at := -70; at < plan.Cells()+140; at++ {
				checkPosition(t, plan, at, h)
			}
			for _, at := range []int{math.MinInt, math.MinInt + plan.Base(), -1 << 32, 1 << 32, 1<<32 + plan.Base(), math.MaxInt - 254, math.MaxInt - 31, math.MaxInt} {
				checkPosition(t, plan, at, h)
			}
		}
	}
	plan := layout.Plan{Pages: 2, Threads: 1, Ring: 1}
	for _, h := range heads() {
		for at := plan.Base() - 1; at <= plan.Cells(); at++ {
			checkPosition(t, plan, at, h)
		}
	}
}

func checkPosition(t *testing.T, plan layout.Plan, at int, h header.Head) {
	t.Helper()
	want := api.OK
	if !allowed(plan, at, 1+h.Len) {
		want = api.ErrAddr
	}
	b, e := objects.NewBuild(plan, at, h)
	if e != want || (b == nil) != (want != api.OK) {
		t.Fatalf("NewBuild(%+v, %d, %+v) = %v, %d", plan, at, h, b, e)
	}
}

// P11.1 and Rule 1: a header that there isn't comes ahead of a position that may not be.
func TestErrors(t *testing.T) {
	for _, h := range badHeads() {
		for _, plan := range append(badPlans(), plans()...) {
			for _, at := range []int{math.MinInt, -1, 0, 64, plan.Base(), plan.Cells(), math.MaxInt} {
				if b, e := objects.NewBuild(plan, at, h); b != nil || e != api.ErrForm {
					t.Errorf("NewBuild(%+v, %d, %+v) = %v, %d", plan, at, h, b, e)
				}
			}
		}
	}
	for _, plan := range badPlans() {
		for _, h := range []header.Head{{Kind: api.Fields}, {Kind: api.Ints, Len: 1}, {Kind: api.Refs, Len: 255}} {
			for _, at := range []int{math.MinInt, -1, 0, 64, 128, 256, 4032, math.MaxInt} {
				if b, e := objects.NewBuild(plan, at, h); b != nil || e != api.ErrAddr {
					t.Errorf("NewBuild(%+v, %d, %+v) = %v, %d", plan, at, h, b, e)
				}
			}
		}
	}
}

// P11.1 and P11.3: the accesses of a build, one in each step, for all lengths and at several places.
func TestBuildAlone(t *testing.T) {
	plan := layout.Plan{Pages: 5, Threads: 2, Ring: 3}
	for _, h := range heads() {
		built := 0
		for _, page := range []int{0, 1, 4} {
			for _, first := range []int{0, 1, 33, 62, 63} {
				if at := plan.Addr(page, first); allowed(plan, at, 1+h.Len) {
					checkBuild(t, plan, at, h)
					built++
				}
			}
		}
		if built == 0 {
			t.Fatalf("%+v is built nowhere", h)
		}
	}
}

func checkBuild(t *testing.T, plan layout.Plan, at int, h header.Head) {
	t.Helper()
	a := arenaOf(t, plan)
	image, p, b := a.Image(), port(t, a), newBuild(t, plan, at, h)
	for k := at + h.Len; k >= at; k-- {
		if b.Over() {
			t.Fatalf("%d, %+v: over ahead of the store into %d", at, h, k)
		}
		p.Grant()
		if b.Step(p) != (k == at) || b.Over() != (k == at) || p.Open() || a.Faults() != 0 {
			t.Fatalf("%d, %+v: the store into %d: %v, %v, %d", at, h, k, b.Over(), p.Open(), a.Faults())
		}
		image[k] = 0
		if k == at {
			image[k] = headWord(h)
		}
		if !slices.Equal(a.Image(), image) {
			t.Fatalf("%d, %+v: the store into %d: %v", at, h, k, a.Image())
		}
	}
	for i, x := range logged(a) {
		if x.Who != who || x.Kind != api.AccStore || x.At != at+h.Len-i || i > h.Len {
			t.Fatalf("%d, %+v: access %d is %+v", at, h, i, x)
		}
	}
	if a.Count() != 1+h.Len {
		t.Fatalf("%d, %+v: %d accesses", at, h, a.Count())
	}
}

func TestNil(t *testing.T) {
	var b *objects.Build
	for _, b := range []*objects.Build{b, {}} {
		if !b.Over() || !b.Step(nil) || !b.Step(&arena.Port{}) {
			t.Error("a machine that no call has made isn't over")
		}
	}
}

// P11.1: without a grant nothing is done, in each state that a machine may be in.
func TestNoGrant(t *testing.T) {
	plan := layout.Plan{Pages: 1, Threads: 1, Ring: 1}
	for steps := range 5 {
		a := arenaOf(t, plan)
		p, shut, b := port(t, a), port(t, a), newBuild(t, plan, 70, header.Head{Kind: api.Refs, Len: 3})
		for range steps {
			p.Grant()
			b.Step(p)
		}
		over := steps == 4
		before, count := a.Image(), a.Count()
		for range 3 {
			if b.Step(shut) != over || b.Step(nil) != over || b.Step(&arena.Port{}) != over || b.Over() != over {
				t.Error(steps, "steps: a step without a grant did something")
			}
		}
		if a.Count() != count || a.Faults() != 0 || !slices.Equal(a.Image(), before) {
			t.Error(steps, "steps:", a.Count()-count, a.Faults())
		}
		for n := steps; !b.Over(); n++ {
			if p.Grant(); b.Step(p) != (n == 3) {
				t.Error(steps, "steps, then step", n)
			}
		}
	}
}

// P11.1: a machine that is over makes no access, leaves the grant, and is over still.
func TestFinished(t *testing.T) {
	plan := layout.Plan{Pages: 1, Threads: 1, Ring: 1}
	a := arenaOf(t, plan)
	p, b := port(t, a), newBuild(t, plan, 64, header.Head{Kind: api.Ints, Len: 63})
	for p.Grant(); !b.Step(p); p.Grant() {
	}
	p.Grant()
	before := a.Image()
	for range 3 {
		if !b.Step(p) || !b.Step(nil) || !b.Over() || !p.Open() {
			t.Error(b.Over(), p.Open())
		}
	}
	if a.Count() != 64 || a.Faults() != 0 || !slices.Equal(a.Image(), before) {
		t.Error(a.Count(), a.Faults())
	}
}

// Rule 6: cells that an arena hasn't are faults; a machine ends all the same.
func TestSmallArena(t *testing.T) {
	plan := layout.Plan{Pages: 4, Threads: 1, Ring: 1}
	a, _ := arena.New(plan.Base()+1, false)
	p, b := port(t, a), newBuild(t, plan, plan.Base(), header.Head{Kind: api.Refs, Len: 255})
	for n := 1; n <= 256; n++ {
		if p.Grant(); b.Step(p) != (n == 256) || p.Open() {
			t.Fatal("step", n)
		}
	}
	if a.Faults() != 255 || a.Count() != 1 || peek(t, a, plan.Base()) != 0xA500000000FF0003 {
		t.Error(a.Faults(), a.Count())
	}
}

// P11.1: Field for any numbers, modulo 2^64.
func TestField(t *testing.T) {
	for _, known := range []struct{ at, i, want int }{
		{64, 0, 65}, {66, 3, 70}, {0, 0, 1}, {0, -1, 0}, {-5, 2, -2}, {70, -80, -9},
		{math.MaxInt, 0, math.MinInt}, {math.MaxInt, -1, math.MaxInt}, {math.MaxInt - 1, 0, math.MaxInt},
		{math.MaxInt, math.MaxInt, -1}, {math.MinInt, math.MinInt, 1}, {math.MinInt, -1, math.MinInt}, {math.MinInt, -2, math.MaxInt}, {0, math.MaxInt, math.MinInt},
	} {
		if got := objects.Field(known.at, known.i); got != known.want {
			t.Errorf("Field(%d, %d) = %d", known.at, known.i, got)
		}
	}
}

// cells: objects of all kinds, and such as there are none.
func cells() []api.Cell {
	l := []api.Cell{{}, {Addr: 64, Kind: 4}, {Kind: -1}, {Kind: 1<<32 + 1}, {Class: 1, Kind: api.Ints}, {Class: 16, Kind: api.Fields}, {Class: -1, Kind: api.Fields}, {Kind: api.Fields, Words: make([]int64, 16)}, {Kind: api.Ints, Words: make([]int64, 256)}, {Kind: api.Refs, Words: make([]int64, 1000)}}
	for _, h := range heads() {
		words := make([]int64, h.Len)
		for i := range words {
			words[i] = int64(i*7%5) * (100 - int64(i))
		}
		l = append(l, api.Cell{Addr: int64(64 * h.Len), Class: h.Class, Kind: h.Kind, Words: words})
	}
	for class := range 17 {
		l = append(l, api.Cell{Addr: 1, Class: class, Kind: api.Fields, Words: []int64{math.MinInt64, 0, -1, math.MaxInt64}})
	}
	return l
}

// P11.1: what a header says of an object that is looked at.
func TestHead(t *testing.T) {
	for _, c := range cells() {
		if h := objects.Head(c); h != (header.Head{Class: c.Class, Kind: c.Kind, Len: len(c.Words)}) {
			t.Errorf("Head(%+v) = %+v", c, h)
		}
	}
	if h := objects.Head(api.Cell{Addr: 5, Class: math.MinInt, Kind: math.MaxInt, Words: []int64{1}}); h != (header.Head{Class: math.MinInt, Kind: math.MaxInt, Len: 1}) {
		t.Errorf("%+v", h)
	}
}

// P11.1: the references of an object, for 16 classes, for one, and for none.
func TestRefs(t *testing.T) {
	one, _, _ := classes.New([]api.Class{{Name: "a", Fields: []api.Field{{Name: "n", Type: api.Int}, {Name: "x", Type: api.Ref}, {Name: "y", Type: api.Ref}, {Name: "z", Type: api.Ref}}}})
	for _, made := range []*classes.Table{table(t), one, nil, {}} {
		for _, c := range cells() {
			var want []int64
			for i, w := range c.Words {
				if w != 0 && made.IsRef(header.Head{Class: c.Class, Kind: c.Kind, Len: len(c.Words)}, i) {
					want = append(want, w)
				}
			}
			before := slices.Clone(c.Words)
			got := objects.Refs(made, c)
			if !slices.Equal(got, want) || !slices.Equal(c.Words, before) {
				t.Errorf("Refs(%+v) = %v, not %v", c, got, want)
			}
			for i := range got {
				got[i] = 1234567
			}
			if !slices.Equal(c.Words, before) {
				t.Errorf("Refs(%+v) shares memory with the object", c)
			}
		}
	}
	c := api.Cell{Addr: 70, Kind: api.Fields, Words: []int64{5, 0, -7, 5}}
	if l := objects.Refs(one, c); !slices.Equal(l, []int64{-7, 5}) {
		t.Error(l)
	}
	c.Kind = api.Refs
	if l := objects.Refs(nil, c); !slices.Equal(l, []int64{5, -7, 5}) {
		t.Error(l)
	}
	c.Kind = api.Ints
	if l := objects.Refs(one, c); len(l) != 0 {
		t.Error(l)
	}
}

// P11.1: what is taken for an object: the least cell that holds it, or whole pages.
func TestSpan(t *testing.T) {
	for _, c := range cells() {
		words, want := 1+len(c.Words), 0
		for _, width := range widths() {
			if want == 0 && width >= words {
				want = width
			}
		}
		if words > 32 {
			want = (words + 63) / 64 * 64
		}
		h := header.Head{Class: c.Class, Kind: c.Kind, Len: len(c.Words)}
		if _, e := header.EncodeHead(h); e != api.OK {
			want = 0
		}
		if got := objects.Span(c); got != want {
			t.Errorf("Span(%+v) = %d, not %d", h, got, want)
		}
	}
	for _, known := range []struct{ n, want int }{{0, 2}, {1, 2}, {2, 3}, {3, 4}, {4, 6}, {31, 32}, {32, 64}, {63, 64}, {64, 128}, {127, 128}, {128, 192}, {255, 256}, {256, 0}} {
		if got := objects.Span(api.Cell{Kind: api.Refs, Words: make([]int64, known.n)}); got != known.want {
			t.Errorf("Span of %d words is %d", known.n, got)
		}
	}
}
