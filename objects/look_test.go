package objects_test

import (
	"math"
	"slices"
	"testing"

	"windrow/api"
	"windrow/arena"
	"windrow/classes"
	"windrow/header"
	"windrow/layout"
	"windrow/objects"
)

// same: are two objects the same in everything?
func same(a, b api.Cell) bool {
	return a.Addr == b.Addr && a.Class == b.Class && a.Kind == b.Kind && slices.Equal(a.Words, b.Words)
}

// nothing: is it an object without anything?
func nothing(c api.Cell) bool { return same(c, api.Cell{}) && c.Words == nil }

// begins: the words of a page at which cells of a size class begin, as chapter 5 lays them.
func begins(class int) []int {
	var l []int
	for at := 0; at+widths()[class] <= 64; at += widths()[class] {
		l = append(l, at)
	}
	return l
}

// allocated: as the chapter says it, from the words of the cells.
func allocated(cells []uint64, plan layout.Plan, at int) bool {
	page, first := (at-plan.Base())/64, (at-plan.Base())%64
	if at < plan.Base() || at >= plan.Cells() {
		return false
	}
	if plan.Entry(page) >= len(cells) || plan.Alloc(page) >= len(cells) {
		return false
	}
	entry, e := header.DecodeEntry(cells[plan.Entry(page)])
	if e != api.OK || cells[plan.Alloc(page)]>>first%2 == 0 {
		return false
	}
	return entry.Kind == header.Small && slices.Contains(begins(entry.Class), first) || entry.Kind == header.Large && first == 0
}

// look: the same of Look. (What is said where an arena has too few cells is tested on its own.)
func look(cells []uint64, plan layout.Plan, made *classes.Table, at int) (api.Cell, api.Errno) {
	if !allocated(cells, plan, at) {
		return api.Cell{}, api.ErrAddr
	}
	page := (at - plan.Base()) / 64
	entry, _ := header.DecodeEntry(cells[plan.Entry(page)])
	h, e := header.DecodeHead(cells[at])
	if e != api.OK || !made.Fits(h) {
		return api.Cell{}, api.ErrForm
	}
	if entry.Kind == header.Small && 1+h.Len > widths()[entry.Class] {
		return api.Cell{}, api.ErrForm
	}
	if entry.Kind == header.Large {
		own := (1 + h.Len + 63) / 64
		if 1+h.Len <= 32 || own != entry.Class || page+own > plan.Pages {
			return api.Cell{}, api.ErrForm
		}
	}
	c := api.Cell{Addr: int64(at), Class: h.Class, Kind: h.Kind}
	for _, w := range cells[at+1 : at+1+h.Len] {
		c.Words = append(c.Words, int64(w))
	}
	return c, api.OK
}

// all: the same of All.
func all(cells []uint64, plan layout.Plan, made *classes.Table) ([]api.Cell, api.Errno) {
	var l []api.Cell
	for at := plan.Base(); at < plan.Cells(); at++ {
		if cells[plan.Alloc((at-plan.Base())/64)]>>((at-plan.Base())%64)%2 == 0 {
			continue
		}
		c, e := look(cells, plan, made, at)
		if e != api.OK {
			return nil, e
		}
		l = append(l, c)
	}
	return l, api.OK
}

// checkHeap holds all that is said of a heap against the chapter's words; the answer of All.
func checkHeap(t *testing.T, a *arena.Arena, plan layout.Plan, made *classes.Table) api.Errno {
	t.Helper()
	image := a.Image()
	for at := -3; at < plan.Cells()+67; at++ {
		checkLook(t, a, image, plan, made, at)
	}
	for _, at := range []int{math.MinInt, math.MinInt + plan.Base(), -1 << 32, 1 << 32, 1<<32 + plan.Base(), math.MaxInt - 63, math.MaxInt} {
		checkLook(t, a, image, plan, made, at)
	}
	want, wantE := all(image, plan, made)
	got, e := objects.All(a, plan, made)
	if !slices.EqualFunc(got, want, same) || e != wantE || e != api.OK && got != nil {
		t.Fatalf("%+v: All = %+v, %d, not %+v, %d", plan, got, e, want, wantE)
	}
	if a.Count() != 0 || a.Faults() != 0 || !slices.Equal(a.Image(), image) {
		t.Fatal("looking made accesses, or changed a cell", a.Count(), a.Faults())
	}
	return e
}

func checkLook(t *testing.T, a *arena.Arena, image []uint64, plan layout.Plan, made *classes.Table, at int) {
	t.Helper()
	if got := objects.Allocated(a, plan, at); got != allocated(image, plan, at) {
		t.Fatalf("%+v: Allocated(%d) = %v", plan, at, got)
	}
	want, wantE := look(image, plan, made, at)
	got, e := objects.Look(a, plan, made, at)
	if !same(got, want) || e != wantE || e != api.OK && !nothing(got) {
		t.Fatalf("%+v: Look(%d) = %+v, %d, not %+v, %d", plan, at, got, e, want, wantE)
	}
}

// entries: words of entries of all kinds and states, and words of none.
func entries() []uint64 {
	l := []uint64{0, math.MaxUint64, 1 << 48, 1 << 63, 1<<12 | 1, 1 << 16, 4, 1<<48 | 1, 0xA500000000010002}
	for class := range 16 {
		for kind := range 4 {
			l = append(l, entry(kind, class, header.Idle, 0, 0), entry(kind, class, header.Idle, 0, 9), entry(kind, class, header.Idle, 3, 0))
			l = append(l, entry(kind, class, header.Owned, 0, 0), entry(kind, class, header.Owned, 5, 1<<32-1), entry(kind, class, header.Owned, 6, 1), entry(kind, class, header.Owned, 15, 1))
			l = append(l, entry(kind, class, header.Busy, 0, 7), entry(kind, class, header.Busy, 15, 7), entry(kind, class, header.Busy, 7, 7), entry(kind, class, 3, 0, 0))
		}
	}
	return l
}

// P11.1: Allocated and Look under all entries, with all bits, none, and each alone.
func TestEntries(t *testing.T) {
	plan := layout.Plan{Pages: 3, Threads: 1, Ring: 1}
	made := table(t)
	for _, held := range entries() {
		for page := range plan.Pages {
			a, _ := arena.New(plan.Cells(), false)
			a.Poke(plan.Entry(page), held)
			for at := plan.Base(); at < plan.Cells(); at++ {
				a.Poke(at, headWord(header.Head{Kind: api.Ints, Len: at % 9}))
			}
			a.Poke(plan.Base(), headWord(header.Head{Kind: api.Refs, Len: 100}))
			for _, alloc := range []uint64{0, 1, math.MaxUint64, 1 << 63, 0x5555555555555555, 1 << 32, 12345678901234567890} {
				a.Poke(plan.Alloc(page), alloc)
				checkHeap(t, a, plan, made)
			}
		}
	}
}

// P11.1: each size class, each bit alone: it counts exactly where a cell begins.
func TestBits(t *testing.T) {
	plan := layout.Plan{Pages: 2, Threads: 1, Ring: 1}
	for class := range widths() {
		for bit := range 64 {
			a, _ := arena.New(plan.Cells(), false)
			a.Poke(plan.Entry(1), entry(header.Small, class, header.Owned, 0, 3))
			a.Poke(plan.Alloc(1), 1<<bit)
			for at := range 64 {
				want := at == bit && slices.Contains(begins(class), at)
				if objects.Allocated(a, plan, plan.Addr(1, at)) != want || objects.Allocated(a, plan, plan.Addr(0, at)) {
					t.Errorf("class %d, bit %d: Allocated at word %d", class, bit, at)
				}
			}
		}
	}
}

// P11.1: Look at objects of each length in cells of each size class, and in pages of large objects.
func TestFits(t *testing.T) {
	plan := layout.Plan{Pages: 5, Threads: 1, Ring: 1}
	made := table(t)
	for _, h := range heads() {
		for page := range plan.Pages {
			a, _ := arena.New(plan.Cells(), false)
			at := plan.Addr(page, 0)
			a.Poke(plan.Alloc(page), 1)
			a.Poke(at, headWord(h))
			for class := range widths() {
				a.Poke(plan.Entry(page), entry(header.Small, class, header.Idle, 0, 2))
				want := api.OK
				if 1+h.Len > widths()[class] {
					want = api.ErrForm
				}
				if c, e := objects.Look(a, plan, made, at); e != want || e != api.OK && !nothing(c) || e == api.OK && objects.Head(c) != h {
					t.Fatalf("%+v in a cell of class %d: %+v, %d", h, class, c, e)
				}
			}
			for own := 1; own <= 4; own++ {
				a.Poke(plan.Entry(page), entry(header.Large, own, header.Idle, 0, 2))
				want := api.ErrForm
				if h.Len >= 32 && own == (h.Len+64)/64 && page+own <= plan.Pages {
					want = api.OK
				}
				if c, e := objects.Look(a, plan, made, at); e != want || e != api.OK && !nothing(c) || e == api.OK && objects.Head(c) != h {
					t.Fatalf("%+v in %d pages from page %d on: %+v, %d", h, own, page, c, e)
				}
			}
		}
	}
}

// P11.1: an object's header must fit the table, whichever table that is.
func TestTables(t *testing.T) {
	plan := layout.Plan{Pages: 1, Threads: 1, Ring: 1}
	two, _, _ := classes.New([]api.Class{{Name: "a"}, {Name: "b", Fields: []api.Field{{Name: "x", Type: api.Ref}, {Name: "y", Type: api.Int}}}})
	a, _ := arena.New(plan.Cells(), false)
	a.Poke(plan.Entry(0), entry(header.Small, 7, header.Idle, 0, 0))
	a.Poke(plan.Alloc(0), 1<<32)
	for i := range 31 {
		a.Poke(97+i, uint64(i)<<60|5)
	}
	for _, made := range []*classes.Table{table(t), two, nil, {}} {
		for kind := range 6 {
			for class := range 18 {
				for n := range 34 {
					h := header.Head{Class: class, Kind: kind, Len: n}
					a.Poke(96, headWord(h))
					c, e := objects.Look(a, plan, made, 96)
					if fits := made.Fits(h) && n <= 31; fits != (e == api.OK) || !fits && (e != api.ErrForm || !nothing(c)) {
						t.Fatalf("%+v: %+v, %d", h, c, e)
					}
					if e == api.OK && (objects.Head(c) != h || c.Addr != 96 || !slices.Equal(objects.Refs(made, c), objects.Refs(made, c))) {
						t.Fatalf("%+v: %+v", h, c)
					}
				}
			}
		}
	}
	for _, w := range []uint64{0, 5, 0xA400000000010002, 0xA500000000010004, 0xA501000000010002, 0xA500000001010002, 0xA500000000010102, math.MaxUint64} {
		a.Poke(96, w)
		if c, e := objects.Look(a, plan, table(t), 96); e != api.ErrForm || !nothing(c) {
			t.Errorf("%x: %+v, %d", w, c, e)
		}
	}
}

// seed makes numbers without a pattern, the same in each run.
type seed uint64

func (s *seed) next() uint64 {
	x := *s
	x ^= x << 13
	x ^= x >> 7
	x ^= x << 17
	*s = x
	return uint64(x)
}

func (s *seed) below(n int) int { return int(s.next() % uint64(n)) }

// head: a valid header of so many words at most that fits the tests' table.
func (s *seed) head(words int) header.Head {
	kind := 1 + s.below(3)
	if kind == api.Fields {
		class := max(s.below(16), 16-words)
		return header.Head{Class: class, Kind: kind, Len: 15 - class}
	}
	return header.Head{Kind: kind, Len: s.below(min(words, 256))}
}

// anyCell: what a cell may hold in a heap whose words are anything.
func (s *seed) anyCell() uint64 {
	switch s.below(4) {
	case 0:
		return 0
	case 1:
		return s.next()
	case 2:
		return headWord(header.Head{Class: s.below(18), Kind: s.below(5), Len: s.below(40)})
	}
	return headWord(s.head(1 + s.below(256)))
}

// Rule 6 and P11.1: heaps whose words are anything.
func TestAnything(t *testing.T) {
	random := seed(88172645463325252)
	made, words := table(t), entries()
	seen := map[api.Errno]int{}
	for range 1500 {
		plan := plans()[random.below(4)]
		a, _ := arena.New(plan.Cells(), false)
		for at := range plan.Cells() {
			a.Poke(at, random.anyCell())
		}
		for page := range plan.Pages {
			if random.below(4) > 0 {
				a.Poke(plan.Entry(page), words[random.below(len(words))])
				a.Poke(plan.Alloc(page), uint64(random.below(2)))
			}
			if random.below(3) == 0 {
				a.Poke(plan.Alloc(page), random.next()&random.next())
			}
		}
		seen[checkHeap(t, a, plan, made)]++
	}
	if seen[api.OK] < 50 || seen[api.ErrAddr] < 50 || seen[api.ErrForm] < 50 {
		t.Error("one answer of All was hardly tried:", seen)
	}
}

// laid is a heap of objects, made by their machines, and what each is.
type laid struct {
	a     *arena.Arena
	plan  layout.Plan
	cells []api.Cell
	image []uint64 // what the cells hold, when all is made
}

// lay fills each page with objects of a size class, or some with a large object, many machines at a time; the words behind the headers get numbers then.
func (s *seed) lay(t *testing.T, plan layout.Plan) *laid {
	t.Helper()
	g := &laid{a: arenaOf(t, plan), plan: plan}
	for page := range plan.Pages {
		g.a.Poke(plan.Entry(page), 0)
		g.a.Poke(plan.Alloc(page), 0)
	}
	g.image = g.a.Image()
	var machines []*objects.Build
	for page := 0; page < plan.Pages; {
		class := s.below(10)
		if class < 8 {
			machines = append(machines, s.laySmall(t, g, page, class)...)
			page++
			continue
		}
		n := 32 + s.below(224)
		own := (n + 64) / 64
		if page+own <= plan.Pages {
			machines = append(machines, g.put(t, page, 0, header.Head{Kind: 2 + s.below(2), Len: n}))
			g.set(plan.Entry(page), entry(header.Large, own, header.Busy, 15, s.below(100)))
		}
		for k := 1; k < own && page+k < plan.Pages; k++ {
			g.set(plan.Entry(page+k), entry(header.Tail, k, 0, 0, 0))
		}
		page += own
	}
	p := port(t, g.a)
	for len(machines) > 0 {
		i := s.below(len(machines))
		if p.Grant(); machines[i].Step(p) {
			machines = slices.Delete(machines, i, i+1)
		}
	}
	return g
}

// set: a cell is set, and is to hold this.
func (g *laid) set(at int, v uint64) {
	g.a.Poke(at, v)
	g.image[at] = v
}

// laySmall: machines for objects in some cells of a page of a size class.
func (s *seed) laySmall(t *testing.T, g *laid, page, class int) []*objects.Build {
	t.Helper()
	var machines []*objects.Build
	for _, first := range begins(class) {
		if s.below(3) > 0 {
			machines = append(machines, g.put(t, page, first, s.head(widths()[class])))
		}
	}
	g.set(g.plan.Entry(page), entry(header.Small, class, header.Owned, s.below(6), s.below(100)))
	return machines
}

// put: a machine for an object, which is to be there when it is over, and its bit, which is set at once.
func (g *laid) put(t *testing.T, page, first int, h header.Head) *objects.Build {
	t.Helper()
	at := g.plan.Addr(page, first)
	g.set(g.plan.Alloc(page), g.image[g.plan.Alloc(page)]|1<<first)
	g.image[at] = headWord(h)
	clear(g.image[at+1 : at+1+h.Len])
	g.cells = append(g.cells, api.Cell{Addr: int64(at), Class: h.Class, Kind: h.Kind, Words: make([]int64, h.Len)})
	return newBuild(t, g.plan, at, h)
}

// P11.2: what was built is found as it was built, and all other words are as they were; then with other words.
func TestBuiltIsFound(t *testing.T) {
	random := seed(2463534242)
	made := table(t)
	for range 200 {
		g := random.lay(t, plans()[random.below(5)])
		if !slices.Equal(g.a.Image(), g.image) {
			t.Fatalf("%+v: other words than those of the objects have changed, or not all of these", g.plan)
		}
		checkFound(t, g, made)
		for _, c := range g.cells {
			for i := range c.Words {
				w := random.next()
				c.Words[i] = int64(w)
				g.a.Poke(objects.Field(int(c.Addr), i), w)
			}
		}
		checkFound(t, g, made)
	}
}

func checkFound(t *testing.T, g *laid, made *classes.Table) {
	t.Helper()
	got, e := objects.All(g.a, g.plan, made)
	if !slices.EqualFunc(got, g.cells, same) || e != api.OK {
		t.Fatalf("%+v: All = %+v, %d, not %+v", g.plan, got, e, g.cells)
	}
	for _, c := range g.cells {
		if found, e := objects.Look(g.a, g.plan, made, int(c.Addr)); !same(found, c) || e != api.OK {
			t.Fatalf("Look(%d) = %+v, %d, not %+v", c.Addr, found, e, c)
		}
	}
}

// Rule 4: what was found shares no memory with anything.
func TestMemory(t *testing.T) {
	random := seed(362436069)
	made := table(t)
	g := random.lay(t, plans()[3])
	image := g.a.Image()
	first, _ := objects.All(g.a, g.plan, made)
	for i, c := range first {
		one, _ := objects.Look(g.a, g.plan, made, int(c.Addr))
		words := c.Words[:cap(c.Words)]
		for k := range words {
			words[k] = -5
		}
		for k := range one.Words {
			one.Words[k] = -6
		}
		first[i].Addr = -7
	}
	if !slices.Equal(g.a.Image(), image) {
		t.Error("the arena shares memory with what was found")
	}
	checkFound(t, g, made)
	again, _ := objects.All(g.a, g.plan, made)
	for i, c := range again {
		_ = append(c.Words, -9)
		for k := range c.Words {
			c.Words[k] = -8
		}
		for _, other := range again[i+1:] {
			if slices.Contains(other.Words, -8) || slices.Contains(other.Words, -9) {
				t.Fatal("two objects share memory")
			}
		}
	}
}

// P11.1 and Rule 1: the errors of All, and which comes first.
func TestAllErrors(t *testing.T) {
	made := table(t)
	for _, plan := range badPlans() {
		for _, a := range []*arena.Arena{nil, {}, arenaOf(t, plans()[0])} {
			if l, e := objects.All(a, plan, made); l != nil || e != api.ErrArg {
				t.Errorf("All of %+v = %v, %d", plan, l, e)
			}
			if c, e := objects.Look(a, plan, made, 64); !nothing(c) || e != api.ErrAddr || objects.Allocated(a, plan, 64) {
				t.Errorf("Look of %+v = %+v, %d", plan, c, e)
			}
		}
	}
	for _, plan := range plans() {
		if l, e := objects.All(nil, plan, made); l != nil || e != api.ErrNil {
			t.Errorf("All of no arena = %v, %d", l, e)
		}
		if c, e := objects.Look(nil, plan, made, plan.Base()); !nothing(c) || e != api.ErrAddr || objects.Allocated(nil, plan, plan.Base()) {
			t.Errorf("Look of no arena = %+v, %d", c, e)
		}
		a, _ := arena.New(plan.Cells(), false)
		if l, e := objects.All(a, plan, nil); len(l) != 0 || e != api.OK {
			t.Errorf("All of an empty heap = %v, %d", l, e)
		}
	}
	plan := layout.Plan{Pages: 3, Threads: 1, Ring: 1}
	a, _ := arena.New(plan.Cells(), false)
	a.Poke(plan.Entry(2), entry(header.Small, 0, 0, 0, 0))
	a.Poke(plan.Alloc(2), 1<<63|1<<2|1)
	a.Poke(plan.Addr(2, 0), headWord(header.Head{Kind: api.Ints, Len: 1}))
	expect := func(want api.Errno) {
		t.Helper()
		if l, e := objects.All(a, plan, made); l != nil || e != want {
			t.Errorf("All = %v, %d, not %d", l, e, want)
		}
	}
	expect(api.ErrForm) // word 2 holds no header; word 63 begins no cell
	a.Poke(plan.Addr(2, 2), headWord(header.Head{Kind: api.Ints, Len: 0}))
	expect(api.ErrAddr)
	a.Poke(plan.Alloc(0), 1)
	expect(api.ErrAddr) // a free page has no cells
	a.Poke(plan.Entry(0), entry(header.Large, 4, 0, 0, 0))
	expect(api.ErrForm)
	a.Poke(plan.Entry(0), entry(header.Tail, 1, 0, 0, 0))
	expect(api.ErrAddr)
}

// Rule 6 and P11.1: arenas that have too few cells for the plan.
func TestTooFewCells(t *testing.T) {
	plan := layout.Plan{Pages: 3, Threads: 1, Ring: 1}
	made := table(t)
	for n := 1; n <= plan.Cells(); n++ {
		a, _ := arena.New(n, false)
		for page := range plan.Pages {
			a.Poke(plan.Entry(page), entry(header.Small, 7, 0, 0, 0))
			a.Poke(plan.Alloc(page), 1)
			a.Poke(plan.Addr(page, 0), headWord(header.Head{Kind: api.Refs, Len: 20}))
		}
		for page := range plan.Pages {
			at := plan.Addr(page, 0)
			there := n > plan.Alloc(page)
			if objects.Allocated(a, plan, at) != there {
				t.Fatalf("%d cells: Allocated(%d) = %v", n, at, !there)
			}
			c, e := objects.Look(a, plan, made, at)
			if (n >= at+21) != (e == api.OK) || e != api.OK && !nothing(c) || !there && e != api.ErrAddr || there && n <= at && e != api.ErrForm {
				t.Fatalf("%d cells: Look(%d) = %+v, %d", n, at, c, e)
			}
		}
		l, e := objects.All(a, plan, made)
		if n <= plan.Alloc(2) && e != api.ErrAddr || (n >= plan.Addr(2, 21)) != (e == api.OK) || e != api.OK && l != nil || e == api.OK && len(l) != 3 {
			t.Fatalf("%d cells: All = %v, %d", n, l, e)
		}
	}
}

// P11.1: the error of Peek comes ahead of those of objects, also of pages whose words are there.
func TestPeekFirst(t *testing.T) {
	plan := layout.Plan{Pages: 3, Threads: 1, Ring: 1}
	a, _ := arena.New(plan.Alloc(2), false)
	a.Poke(plan.Entry(0), entry(header.Small, 7, 0, 0, 0))
	a.Poke(plan.Alloc(0), 1)
	if c, e := objects.Look(a, plan, table(t), plan.Base()); !nothing(c) || e != api.ErrForm {
		t.Errorf("Look = %+v, %d", c, e)
	}
	if l, e := objects.All(a, plan, table(t)); l != nil || e != api.ErrAddr {
		t.Errorf("All = %v, %d", l, e)
	}
}
