package pages_test

import (
	"math"
	"slices"
	"testing"

	"windrow/api"
	"windrow/arena"
	"windrow/header"
	"windrow/layout"
	"windrow/pages"
)

// machine is what all kinds have.
type machine interface {
	Step(p *arena.Port) bool
	Over() bool
}

const (
	who  = 7   // makes the accesses of these tests, where only one does
	most = 500 // more accesses than a machine makes that is alone in a heap of these tests
)

// page is what a page's words hold.
type page struct{ entry, alloc, mark uint64 }

// entry: an entry's word, put together as chapter 2 says.
func entry(kind, class, state, owner, cycle int) uint64 {
	return uint64(kind | class<<2 | state<<6 | owner<<8 | cycle<<16)
}

func idle(class, cycle int) uint64 { return entry(header.Small, class, header.Idle, 0, cycle) }

func owned(class, owner, cycle int) uint64 {
	return entry(header.Small, class, header.Owned, owner, cycle)
}

func busy(class, owner, cycle int) uint64 {
	return entry(header.Small, class, header.Busy, owner, cycle)
}

func large(n, cycle int) uint64 { return entry(header.Large, n, header.Idle, 0, cycle) }

func busyLarge(n, owner, cycle int) uint64 {
	return entry(header.Large, n, header.Busy, owner, cycle)
}

func tail(k int) uint64 { return entry(header.Tail, k, header.Idle, 0, 0) }

// heap: an arena of so many threads whose pages hold these words. Each word of the heap holds 9.
func heap(t *testing.T, threads int, held ...page) (*arena.Arena, layout.Plan) {
	t.Helper()
	plan, e := layout.New(len(held), threads, 1)
	if e != api.OK {
		t.Fatal(e)
	}
	a, e := arena.New(plan.Cells(), true)
	if e != api.OK {
		t.Fatal(e)
	}
	for at := plan.Base(); at < plan.Cells(); at++ {
		a.Poke(at, 9)
	}
	for i, h := range held {
		a.Poke(plan.Entry(i), h.entry)
		a.Poke(plan.Alloc(i), h.alloc)
		a.Poke(plan.Mark(i), h.mark)
	}
	return a, plan
}

func port(t *testing.T, a *arena.Arena, who int) *arena.Port {
	t.Helper()
	p, e := a.Port(who)
	if e != api.OK {
		t.Fatal(who, e)
	}
	return p
}

func peek(t *testing.T, a *arena.Arena, at int) uint64 {
	t.Helper()
	v, e := a.Peek(at)
	if e != api.OK {
		t.Fatal(at, e)
	}
	return v
}

func newSweep(t *testing.T, plan layout.Plan, who, cycle, page int) *pages.Sweep {
	t.Helper()
	m, e := pages.NewSweep(plan, who, cycle, page)
	if m == nil || e != api.OK {
		t.Fatalf("NewSweep(%+v, %d, %d, %d) = %v, %d", plan, who, cycle, page, m, e)
	}
	return m
}

func newClaim(t *testing.T, plan layout.Plan, th, cycle, class int) *pages.Claim {
	t.Helper()
	m, e := pages.NewClaim(plan, th, cycle, class)
	if m == nil || e != api.OK {
		t.Fatalf("NewClaim(%+v, %d, %d, %d) = %v, %d", plan, th, cycle, class, m, e)
	}
	return m
}

func newRun(t *testing.T, plan layout.Plan, th, cycle, n int) *pages.Run {
	t.Helper()
	m, e := pages.NewRun(plan, th, cycle, n)
	if m == nil || e != api.OK {
		t.Fatalf("NewRun(%+v, %d, %d, %d) = %v, %d", plan, th, cycle, n, m, e)
	}
	return m
}

func newGive(t *testing.T, plan layout.Plan, page int, e header.Entry, cycle int) *pages.Give {
	t.Helper()
	m, err := pages.NewGive(plan, page, e, cycle)
	if m == nil || err != api.OK {
		t.Fatalf("NewGive(%+v, %d, %+v, %d) = %v, %d", plan, page, e, cycle, m, err)
	}
	return m
}

// event is an access that a machine is to make, or what somebody else stores meanwhile.
type event struct {
	other bool
	made  api.Access
}

// story is the accesses that a machine is to make, one after the other, and what the cells hold by then.
type story struct {
	plan   layout.Plan
	cells  []uint64
	events []event
}

func tell(a *arena.Arena, plan layout.Plan) *story { return &story{plan: plan, cells: a.Image()} }

func (s *story) add(made api.Access) *story {
	made.Who, made.Seen = who, s.cells[made.At]
	switch {
	case made.Kind == api.AccStore, made.Kind == api.AccCas && made.Want == made.Seen:
		s.cells[made.At] = made.Put
	}
	made.Left = s.cells[made.At]
	s.events = append(s.events, event{made: made})
	return s
}

func (s *story) load(at int) *story { return s.add(api.Access{Kind: api.AccLoad, At: at}) }

func (s *story) store(at int, v uint64) *story {
	return s.add(api.Access{Kind: api.AccStore, At: at, Put: v})
}

func (s *story) cas(at int, want, v uint64) *story {
	return s.add(api.Access{Kind: api.AccCas, At: at, Want: want, Put: v})
}

// other: somebody else stores v ahead of the machine's next access.
func (s *story) other(at int, v uint64) *story {
	s.cells[at] = v
	s.events = append(s.events, event{other: true, made: api.Access{At: at, Put: v}})
	return s
}

// entries: Loads of the entries of pages.
func (s *story) entries(of ...int) *story {
	for _, i := range of {
		s.load(s.plan.Entry(i))
	}
	return s
}

// swept: the accesses of a sweep that goes through, behind its Load of Entry; none but the last is to be 0.
func (s *story) swept(i int, from, taken, kept, last uint64) *story {
	s.entries(i).cas(s.plan.Entry(i), from, taken).load(s.plan.Mark(i)).load(s.plan.Alloc(i))
	return s.store(s.plan.Alloc(i), kept).store(s.plan.Mark(i), 0).store(s.plan.Entry(i), last)
}

// obtained: the accesses that make a free page of a class the thread's.
func (s *story) obtained(i int, by uint64) *story {
	return s.cas(s.plan.Entry(i), 0, by).store(s.plan.Alloc(i), 0).store(s.plan.Mark(i), 0)
}

// follow steps a machine through a story: each step makes the access that is told, and the last one ends it.
func (s *story) follow(t *testing.T, a *arena.Arena, m machine) {
	t.Helper()
	p := port(t, a, who)
	for n, e := range s.events {
		if e.other {
			a.Poke(e.made.At, e.made.Put)
			continue
		}
		if m.Over() {
			t.Fatalf("over ahead of access %d, %+v", n, e.made)
		}
		count := a.Count()
		p.Grant()
		over := m.Step(p)
		if a.Count() != count+1 || p.Open() || a.Faults() != 0 {
			t.Fatal("step", n, "makes", a.Count()-count, "accesses and", a.Faults(), "faults")
		}
		if made := lastOf(a); made != e.made {
			t.Fatalf("access %d: %+v, not %+v", n, made, e.made)
		}
		if end := n == len(s.events)-1; over != end || m.Over() != end {
			t.Fatalf("behind access %d of %d: %v, %v", n, len(s.events), over, m.Over())
		}
	}
	if !slices.Equal(a.Image(), s.cells) {
		t.Fatal("the cells hold", a.Image(), "not", s.cells)
	}
}

// lastOf: the access that was made last.
func lastOf(a *arena.Arena) api.Access {
	var last api.Access
	for _, made := range a.Log() {
		last = made
	}
	return last
}

// finish steps a machine until it is over; each step makes one access.
func finish(t *testing.T, a *arena.Arena, m machine) {
	t.Helper()
	p := port(t, a, who)
	for n := 0; !m.Over(); n++ {
		count := a.Count()
		p.Grant()
		over := m.Step(p)
		if over != m.Over() || a.Count() != count+1 || p.Open() || a.Faults() != 0 {
			t.Fatal("a step:", over, m.Over(), a.Count()-count, a.Faults())
		}
		if n == most {
			t.Fatal("a machine doesn't end")
		}
	}
}

// seed makes numbers without a pattern, the same in each run.
type seed uint64

func (s *seed) next() uint64 {
	x := *s
	x ^= x << 13
	x ^= x >> 7
	x ^= x << 17
	*s = x
	return uint64(x)
}

func (s *seed) below(n int) int { return int(s.next() >> 8 % uint64(n)) }

// pick: one of several.
func pick[T any](s *seed, of ...T) T { return of[s.below(len(of))] }

func TestExample(t *testing.T) {
	plan := layout.Plan{Pages: 2, Threads: 1, Ring: 4}
	a, _ := arena.New(plan.Cells(), true)
	claim := newClaim(t, plan, 0, 0, 7)
	by := owned(7, 0, 0)
	tell(a, plan).entries(0, 1).entries(0).obtained(0, by).follow(t, a, claim)
	if !claim.Got() || claim.Page() != 0 || claim.Alloc() != 0 || peek(t, a, 25) != by {
		t.Error(claim.Got(), claim.Page(), claim.Alloc(), peek(t, a, 25))
	}
	run := newRun(t, plan, 0, 0, 2)
	tell(a, plan).entries(0, 1).entries(0, 1).entries(0, 1).follow(t, a, run)
	if e, err := run.Publish(); run.Got() || run.Page() != 0 || e != (header.Entry{}) || err != api.ErrState {
		t.Error(run.Got(), run.Page(), e, err)
	}
}

// badNumbers: numbers that are below all ranges, or above them.
func badNumbers() []int { return []int{math.MinInt, -1, 1 << 33, math.MaxInt} }

// badPlans: plans of which one number, or each, is out of its range.
func badPlans() []layout.Plan {
	l := []layout.Plan{{}, {Pages: 33, Threads: 1, Ring: 1}, {Pages: 1, Threads: 7, Ring: 1}, {Pages: 1, Threads: 1, Ring: 17}}
	for _, n := range append(badNumbers(), 0) {
		l = append(l, layout.Plan{Pages: n, Threads: 1, Ring: 1}, layout.Plan{Pages: 1, Threads: n, Ring: 1}, layout.Plan{Pages: 1, Threads: 1, Ring: n}, layout.Plan{Pages: n, Threads: n, Ring: n})
	}
	return l
}

func wantErr[T any](t *testing.T, what string, e, want api.Errno, m *T, args ...int) {
	t.Helper()
	if e != want || (m == nil) != (want != api.OK) {
		t.Errorf("%s%v = %v, %d, not %d", what, args, m, e, want)
	}
}

// tryAll: each call with these numbers; which of them are to be wrong.
func tryAll(t *testing.T, plan layout.Plan, th, cycle, n int, want api.Errno) {
	t.Helper()
	claim, e := pages.NewClaim(plan, th, cycle, n)
	wantErr(t, "NewClaim", e, want, claim, th, cycle, n)
	run, e := pages.NewRun(plan, th, cycle, n)
	wantErr(t, "NewRun", e, want, run, th, cycle, n)
	sweep, e := pages.NewSweep(plan, th, cycle, n)
	wantErr(t, "NewSweep", e, want, sweep, th, cycle, n)
}

func TestErrors(t *testing.T) {
	small := header.Entry{Kind: header.Small, Class: 1}
	for _, plan := range badPlans() {
		tryAll(t, plan, 0, 0, 1, api.ErrArg)
		tryAll(t, plan, 0, 0, 0, api.ErrArg)
		m, e := pages.NewGive(plan, 0, small, 0)
		wantErr(t, "NewGive", e, api.ErrArg, m)
	}
	plan := layout.Plan{Pages: 5, Threads: 3, Ring: 1}
	for _, cycle := range []int{0, 1, api.MaxCycle - 1, api.MaxCycle} {
		for th := range plan.Threads {
			tryAll(t, plan, th, cycle, 1, api.OK)
			tryAll(t, plan, th, cycle, 4, api.OK)
		}
	}
	for _, n := range badNumbers() {
		tryAll(t, plan, n, 0, 1, api.ErrArg)
		tryAll(t, plan, 0, n, 1, api.ErrArg)
		tryAll(t, plan, 0, 0, n, api.ErrArg)
	}
	tryAll(t, plan, 0, api.MaxCycle+1, 1, api.ErrArg)
	for class := range 10 {
		m, e := pages.NewClaim(plan, 0, 0, class)
		wantErr(t, "NewClaim", e, errIf(class > 7), m, class)
		r, e := pages.NewRun(plan, 0, 0, class)
		wantErr(t, "NewRun", e, errIf(class < 1 || class > 4), r, class)
		s, e := pages.NewSweep(plan, 0, 0, class)
		wantErr(t, "NewSweep", e, errIf(class > 4), s, class)
	}
}

func errIf(wrong bool) api.Errno {
	if wrong {
		return api.ErrArg
	}
	return api.OK
}

// A worker is any thread, also one that the plan hasn't; a page is obtained for a thread of the plan.
func TestWhoMayBe(t *testing.T) {
	plan := layout.Plan{Pages: 2, Threads: 3, Ring: 1}
	for who := -1; who <= 17; who++ {
		s, e := pages.NewSweep(plan, who, 0, 0)
		wantErr(t, "NewSweep", e, errIf(who < 0 || who > 5 && who != 15), s, who)
		c, e := pages.NewClaim(plan, who, 0, 0)
		wantErr(t, "NewClaim", e, errIf(who < 0 || who > 2), c, who)
		r, e := pages.NewRun(plan, who, 0, 1)
		wantErr(t, "NewRun", e, errIf(who < 0 || who > 2), r, who)
	}
}

// A give makes one Store of the entry that Given says; where that is none, it is ErrForm, behind ErrArg of the page.
func TestGive(t *testing.T) {
	forms := []header.Entry{
		{}, {Kind: header.Tail, Class: 1}, {Kind: header.Tail, Class: 3}, {Kind: header.Free, Class: 1}, {Kind: 4}, {Kind: -1},
		{Kind: header.Small, Class: 8}, {Kind: header.Small, Class: -1}, {Kind: header.Large, Class: 0}, {Kind: header.Large, Class: 5},
		{Kind: header.Small, State: header.Idle, Owner: 1}, {Kind: header.Small, State: header.Owned, Owner: 6}, {Kind: header.Small, State: header.Owned, Owner: 15},
		{Kind: header.Large, Class: 1, State: header.Owned}, {Kind: header.Small, State: header.Busy, Owner: 14}, {Kind: header.Small, Cycle: -1}, {Kind: header.Small, Cycle: api.MaxCycle + 1},
	}
	plan := layout.Plan{Pages: 3, Threads: 1, Ring: 1}
	for _, e := range forms {
		m, err := pages.NewGive(plan, 1, e, 4)
		wantErr(t, "NewGive", err, api.ErrForm, m)
		m, err = pages.NewGive(plan, 3, e, 4)
		wantErr(t, "NewGive", err, api.ErrArg, m)
	}
	fine := header.Entry{Kind: header.Small, Class: 2, State: header.Owned, Owner: 5, Cycle: 9}
	for _, n := range append(badNumbers(), 3, 32) {
		m, err := pages.NewGive(plan, n, fine, 4)
		wantErr(t, "NewGive", err, api.ErrArg, m, n)
	}
	for _, n := range append(badNumbers(), api.MaxCycle+1) {
		m, err := pages.NewGive(plan, 0, fine, n)
		wantErr(t, "NewGive", err, api.ErrForm, m, n)
	}
	for _, e := range []header.Entry{fine, {Kind: header.Small}, {Kind: header.Small, Class: 7, State: header.Busy, Owner: 15, Cycle: api.MaxCycle}, {Kind: header.Large, Class: 4, State: header.Busy, Owner: 2, Cycle: 1}, {Kind: header.Large, Class: 1}} {
		for _, cycle := range []int{0, 1, 9, api.MaxCycle} {
			for i := range plan.Pages {
				a, plan := heap(t, 1, page{owned(1, 0, 0), 5, 6}, page{tail(2), 7, 8}, page{^uint64(0), 3, 4})
				m := newGive(t, plan, i, e, cycle)
				tell(a, plan).store(plan.Entry(i), entry(e.Kind, e.Class, 0, 0, cycle)).follow(t, a, m)
			}
		}
	}
}

// still: what a machine answers that is over.
type still struct {
	m       machine
	answers func() []any
}

func sweepAnswers(s *pages.Sweep) still {
	return still{s, func() []any { return []any{s.Swept(), s.Empty(), s.Freed(), s.Blocked()} }}
}

func claimAnswers(c *pages.Claim) still {
	return still{c, func() []any { return []any{c.Got(), c.Page(), c.Alloc()} }}
}

func runAnswers(r *pages.Run) still {
	return still{r, func() []any {
		e, err := r.Publish()
		return []any{r.Got(), r.Page(), e, err}
	}}
}

func giveAnswers(g *pages.Give) still { return still{g, func() []any { return nil }} }

// A nil machine is over and has done nothing; so is one that no call has made.
func TestNil(t *testing.T) {
	a, _ := heap(t, 1, page{})
	p := port(t, a, who)
	p.Grant()
	var s *pages.Sweep
	var c *pages.Claim
	var r *pages.Run
	var g *pages.Give
	none := []any{false, false, 0, false}
	unclaimed := []any{false, 0, uint64(0)}
	unpublished := []any{false, 0, header.Entry{}, api.ErrState}
	for i, known := range []struct {
		still
		want []any
	}{
		{sweepAnswers(s), none}, {sweepAnswers(&pages.Sweep{}), none}, {claimAnswers(c), unclaimed}, {claimAnswers(&pages.Claim{}), unclaimed},
		{runAnswers(r), unpublished}, {runAnswers(&pages.Run{}), unpublished}, {giveAnswers(g), nil}, {giveAnswers(&pages.Give{}), nil},
	} {
		if !known.m.Over() || !known.m.Step(nil) || !known.m.Step(p) || !slices.Equal(known.answers(), known.want) {
			t.Error(i, known.m.Over(), known.answers())
		}
	}
	if !p.Open() || a.Count() != 0 || a.Faults() != 0 {
		t.Error(p.Open(), a.Count(), a.Faults())
	}
}

// machines: functions that make machines, which together come through all their states, each with the heap that it is to be stepped in.
func machines(t *testing.T) []func() (*arena.Arena, still) {
	t.Helper()
	held := []page{{idle(3, 4), 0x1041, 0x40}, {idle(3, 5), 0x41041041041041, 0}, {large(2, 1), 1, 0}, {tail(1), 0, 0}, {idle(5, 0), 1, 0}, {owned(3, 1, 5), 0, 0}}
	in := func(of func(layout.Plan) still, held ...page) func() (*arena.Arena, still) {
		return func() (*arena.Arena, still) {
			a, plan := heap(t, 2, held...)
			return a, of(plan)
		}
	}
	sweeper := func(page int) func(layout.Plan) still {
		return func(plan layout.Plan) still { return sweepAnswers(newSweep(t, plan, 15, 5, page)) }
	}
	claimer := func(class int) func(layout.Plan) still {
		return func(plan layout.Plan) still { return claimAnswers(newClaim(t, plan, 0, 5, class)) }
	}
	runner := func(n int) func(layout.Plan) still {
		return func(plan layout.Plan) still { return runAnswers(newRun(t, plan, 0, 5, n)) }
	}
	giver := func(plan layout.Plan) still {
		return giveAnswers(newGive(t, plan, 0, header.Entry{Kind: header.Large, Class: 1}, 3))
	}
	return []func() (*arena.Arena, still){
		in(sweeper(0), held...), in(sweeper(2), held...), in(sweeper(5), held...),
		in(claimer(3), held...), in(claimer(3), held[1:]...), in(claimer(3), page{}), in(claimer(6), held[4:5]...), in(claimer(6), held[5:]...),
		in(runner(4), held...), in(runner(3), held...), in(runner(2), held[3:]...), in(runner(3), held[:2]...), in(giver, held...),
	}
}

// P9.1, P9.4: without a grant nothing is done, in each state that a machine may be in; it goes on as if nothing had been asked.
func TestNoGrant(t *testing.T) {
	for i, newOne := range machines(t) {
		a, m := newOne()
		b, undisturbed := newOne()
		p, shut, q := port(t, a, who), port(t, a, who), port(t, b, who)
		for n := 0; ; n++ {
			over, answers := m.m.Over(), m.answers()
			count, before := a.Count(), a.Image()
			for range 2 {
				if m.m.Step(shut) != over || m.m.Step(nil) != over || m.m.Step(&arena.Port{}) != over || m.m.Over() != over || !slices.Equal(m.answers(), answers) {
					t.Fatal(i, n, "a step without a grant did something")
				}
			}
			if a.Count() != count || a.Faults() != 0 || !slices.Equal(a.Image(), before) {
				t.Fatal(i, n, a.Count()-count, a.Faults())
			}
			if over {
				break
			}
			if n == most {
				t.Fatal(i, "doesn't end")
			}
			p.Grant()
			q.Grant()
			if m.m.Step(p) != undisturbed.m.Step(q) || !slices.Equal(a.Image(), b.Image()) || lastOf(a) != lastOf(b) {
				t.Fatal(i, n, "goes on otherwise")
			}
		}
	}
}

// P9.1: a machine that is over makes no access, leaves the grant, and answers as before; ahead of that it has obtained and swept nothing.
func TestFinished(t *testing.T) {
	for i, newOne := range machines(t) {
		a, m := newOne()
		p := port(t, a, who)
		first := m.answers()
		for n := 0; !m.m.Over(); n++ {
			if n == most || !slices.Equal(m.answers(), first) {
				t.Fatal(i, "answers too early, or doesn't end:", n, m.answers())
			}
			p.Grant()
			m.m.Step(p)
		}
		answers, before, count := m.answers(), a.Image(), a.Count()
		p.Grant()
		for range 3 {
			if !m.m.Step(p) || !m.m.Step(nil) || !m.m.Over() || !p.Open() || !slices.Equal(m.answers(), answers) {
				t.Error(i, m.m.Over(), p.Open(), m.answers(), answers)
			}
		}
		if a.Count() != count || a.Faults() != 0 || !slices.Equal(a.Image(), before) {
			t.Error(i, a.Count()-count, a.Faults())
		}
	}
}

// Rule 6: cells that an arena hasn't are faults, which tell 0 or false; a machine ends all the same.
func TestSmallArena(t *testing.T) {
	plan := layout.Plan{Pages: 3, Threads: 1, Ring: 1}
	for cells := 1; cells <= plan.Mark(2)+1; cells++ {
		for i := range 4 {
			a, _ := arena.New(cells, false)
			for page := range plan.Pages {
				a.Poke(plan.Entry(page), large(3-page, 1))
			}
			p := port(t, a, who)
			m := []machine{newSweep(t, plan, 15, 2, 0), newClaim(t, plan, 0, 2, 3), newRun(t, plan, 0, 2, 3), newGive(t, plan, 2, header.Entry{Kind: header.Small}, 2)}[i]
			for n := 0; !m.Over(); n++ {
				p.Grant()
				m.Step(p)
				if p.Open() || a.Faults()+a.Count() != n+1 || n == most {
					t.Fatal(cells, i, "step", n, a.Faults(), a.Count())
				}
			}
		}
	}
}
