package arena_test

import (
	"math"
	"slices"
	"testing"

	"windrow/api"
	"windrow/arena"
)

// made: an arena that there must be.
func made(t *testing.T, cells int, keep bool) *arena.Arena {
	t.Helper()
	a, e := arena.New(cells, keep)
	if a == nil || e != api.OK {
		t.Fatalf("New(%d, %v) = %v, %d", cells, keep, a, e)
	}
	return a
}

// port: one that there must be.
func port(t *testing.T, a *arena.Arena, who int) *arena.Port {
	t.Helper()
	p, e := a.Port(who)
	if p == nil || e != api.OK {
		t.Fatalf("Port(%d) = %v, %d", who, p, e)
	}
	return p
}

// logged: the log as a list; its numbers must rise from 0 on.
func logged(t *testing.T, a *arena.Arena) []api.Access {
	t.Helper()
	var l []api.Access
	for i, x := range a.Log() {
		if i != len(l) {
			t.Fatalf("access %d is numbered %d", len(l), i)
		}
		l = append(l, x)
	}
	return l
}

// wild: numbers that are never cells of the arenas here.
func wild(cells int) []int {
	return []int{math.MinInt, math.MinInt + 1, -1 << 32, -cells, -2, -1, cells, cells + 1, api.MaxCells, 1 << 32, 1<<32 + 1, math.MaxInt - 1, math.MaxInt}
}

// seed makes numbers without a pattern, the same in each run.
type seed uint64

func (s *seed) next() uint64 {
	x := *s
	x ^= x << 13
	x ^= x >> 7
	x ^= x << 17
	*s = x
	return uint64(x)
}

func (s *seed) below(n int) int { return int(s.next() % uint64(n)) }

// word: often one of few, so that a Cas meets what it wants.
func (s *seed) word() uint64 {
	switch s.below(4) {
	case 0:
		return 0
	case 1:
		return uint64(s.below(3))
	case 2:
		return math.MaxUint64
	}
	return s.next()
}

func TestExample(t *testing.T) {
	a := made(t, 2, true)
	p := port(t, a, 3)
	p.Grant()
	if seen := p.Or(1, 6); seen != 0 {
		t.Error("the first Or", seen)
	}
	if seen := p.Or(1, 1); seen != 0 {
		t.Error("the second Or", seen)
	}
	if v, e := a.Peek(1); v != 6 || e != api.OK {
		t.Error("Peek", v, e)
	}
	if a.Count() != 1 || a.Faults() != 1 {
		t.Error(a.Count(), a.Faults())
	}
	if l := logged(t, a); !slices.Equal(l, []api.Access{{Who: 3, Kind: api.AccOr, At: 1, Want: 0, Put: 6, Seen: 0, Left: 6}}) {
		t.Error(l)
	}
}

func TestNew(t *testing.T) {
	for _, keep := range []bool{false, true} {
		for _, cells := range []int{math.MinInt, -4096, -1, 0, 4097, 1 << 32, 1<<32 + 1, math.MaxInt} {
			if a, e := arena.New(cells, keep); a != nil || e != api.ErrArg {
				t.Errorf("New(%d, %v) = %v, %d", cells, keep, a, e)
			}
		}
		for _, cells := range []int{1, 2, 64, 4095, 4096} {
			a := made(t, cells, keep)
			if a.Cells() != cells || a.Count() != 0 || a.Faults() != 0 || len(logged(t, a)) != 0 {
				t.Errorf("New(%d, %v): %d %d %d", cells, keep, a.Cells(), a.Count(), a.Faults())
			}
			if !slices.Equal(a.Image(), make([]uint64, cells)) {
				t.Errorf("New(%d, %v): not all are 0", cells, keep)
			}
		}
	}
}

func TestPeekAndPoke(t *testing.T) {
	a := made(t, 3, true)
	for at := range 3 {
		if e := a.Poke(at, uint64(at)+math.MaxUint64-5); e != api.OK {
			t.Error("Poke", at, e)
		}
	}
	for at := range 3 {
		if v, e := a.Peek(at); v != uint64(at)+math.MaxUint64-5 || e != api.OK {
			t.Error("Peek", at, v, e)
		}
	}
	before := a.Image()
	for _, at := range wild(3) {
		if v, e := a.Peek(at); v != 0 || e != api.ErrAddr {
			t.Error("Peek", at, v, e)
		}
		if e := a.Poke(at, 7); e != api.ErrAddr {
			t.Error("Poke", at, e)
		}
	}
	if !slices.Equal(a.Image(), before) {
		t.Error("an error changed", before, a.Image())
	}
	if a.Count() != 0 || a.Faults() != 0 || len(logged(t, a)) != 0 {
		t.Error("Peek and Poke are no accesses", a.Count(), a.Faults())
	}
}

// They need no grant, and use none up.
func TestPokeLeavesGrants(t *testing.T) {
	a := made(t, 3, true)
	p := port(t, a, 0)
	p.Grant()
	a.Poke(1, 4)
	a.Peek(1)
	a.Poke(9, 4)
	if !p.Open() {
		t.Error("the grant is gone")
	}
	if v := p.Load(1); v != 4 {
		t.Error(v)
	}
}

func TestPort(t *testing.T) {
	a := made(t, 1, false)
	for who := 0; who <= 15; who++ {
		if p := port(t, a, who); p.Who() != who || p.Open() {
			t.Error(who, p.Who(), p.Open())
		}
	}
	for _, who := range []int{math.MinInt, -1, 16, 17, 1 << 32, math.MaxInt} {
		if p, e := a.Port(who); p != nil || e != api.ErrArg {
			t.Error(who, p, e)
		}
	}
}

// asks are the kinds of accesses: the call, whose answer is brought to one form, and what it asks for.
type ask struct {
	kind int
	call func(p *arena.Port, at int, want, v uint64) uint64
}

func asks() []ask {
	flag := func(b bool) uint64 {
		if b {
			return 1
		}
		return 0
	}
	return []ask{
		{api.AccLoad, func(p *arena.Port, at int, want, v uint64) uint64 { return p.Load(at) }},
		{api.AccStore, func(p *arena.Port, at int, want, v uint64) uint64 { p.Store(at, v); return 0 }},
		{api.AccSwap, func(p *arena.Port, at int, want, v uint64) uint64 { return p.Swap(at, v) }},
		{api.AccCas, func(p *arena.Port, at int, want, v uint64) uint64 { return flag(p.Cas(at, want, v)) }},
		{api.AccOr, func(p *arena.Port, at int, want, v uint64) uint64 { return p.Or(at, v) }},
		{api.AccAnd, func(p *arena.Port, at int, want, v uint64) uint64 { return p.And(at, v) }},
	}
}

// expected: what an access answers, and how it is recorded, by the chapter's words.
func expected(kind, who, at int, want, v, seen uint64) (uint64, api.Access) {
	x := api.Access{Who: who, Kind: kind, At: at, Put: v, Seen: seen, Left: v}
	switch kind {
	case api.AccLoad:
		x.Put, x.Left = 0, seen
		return seen, x
	case api.AccStore:
		return 0, x
	case api.AccSwap:
		return seen, x
	case api.AccCas:
		x.Want = want
		if want != seen {
			x.Left = seen
			return 0, x
		}
		return 1, x
	}
	for i := range 64 {
		was, given := seen>>i&1, v>>i&1
		left := max(was, given)
		if kind == api.AccAnd {
			left = min(was, given)
		}
		x.Left = x.Left&^(1<<i) | left<<i
	}
	return seen, x
}

func TestAccesses(t *testing.T) {
	words := []uint64{0, 1, 2, 3, 5, 6, 1 << 63, math.MaxUint64, 0xF0F0F0F0F0F0F0F0}
	for _, k := range asks() {
		for _, seen := range words {
			for _, v := range words {
				for _, want := range words {
					checkAccess(t, k, want, v, seen)
				}
			}
		}
	}
}

func checkAccess(t *testing.T, k ask, want, v, seen uint64) {
	t.Helper()
	a := made(t, 3, true)
	for at := range 3 {
		a.Poke(at, seen+uint64(at)-1)
	}
	p := port(t, a, 9)
	p.Grant()
	if !p.Open() {
		t.Fatal("Grant gave none")
	}
	got := k.call(p, 1, want, v)
	answer, x := expected(k.kind, 9, 1, want, v, seen)
	if got != answer {
		t.Fatalf("kind %d, want %x, v %x, seen %x: %x, not %x", k.kind, want, v, seen, got, answer)
	}
	if l := logged(t, a); !slices.Equal(l, []api.Access{x}) {
		t.Fatalf("logged as %v, not %v", l, x)
	}
	if !slices.Equal(a.Image(), []uint64{seen - 1, x.Left, seen + 1}) {
		t.Fatalf("kind %d, want %x, v %x: %x left %x", k.kind, want, v, seen, a.Image())
	}
	if p.Open() || a.Count() != 1 || a.Faults() != 0 {
		t.Fatal(k.kind, p.Open(), a.Count(), a.Faults())
	}
}

// checkFault makes a call that must be a fault.
func checkFault(t *testing.T, k ask, a *arena.Arena, p *arena.Port, at int) {
	t.Helper()
	image, log, count, faults := a.Image(), logged(t, a), a.Count(), a.Faults()
	// The cells hold 0 or 5: both a Cas that wants what it gets and one that wants 0 are asked for.
	for _, want := range []uint64{0, 5} {
		open := p.Open()
		if got := k.call(p, at, want, 7); got != 0 {
			t.Fatalf("kind %d at %d: a fault answers %x", k.kind, at, got)
		}
		faults++
		if p.Open() || a.Faults() != faults || a.Count() != count {
			t.Fatalf("kind %d at %d: %v, %d faults, %d accesses", k.kind, at, p.Open(), a.Faults(), a.Count())
		}
		if open {
			p.Grant()
		}
	}
	if !slices.Equal(a.Image(), image) || !slices.Equal(logged(t, a), log) {
		t.Fatalf("kind %d at %d: a fault changed %v, %v", k.kind, at, a.Image(), logged(t, a))
	}
}

func TestFaults(t *testing.T) {
	for _, k := range asks() {
		a := made(t, 3, true)
		a.Poke(1, 5)
		p := port(t, a, 2)
		for at := range 3 {
			checkFault(t, k, a, p, at)
		}
		for _, at := range wild(3) {
			checkFault(t, k, a, p, at)
			p.Grant()
			checkFault(t, k, a, p, at)
			p.Load(-1)
			if p.Open() {
				t.Fatal("a fault left the grant")
			}
			checkFault(t, k, a, p, 1)
		}
	}
}

// P3.3: two grants without an access between are one, and one port's grant is not another's.
func TestOneAccessAGrant(t *testing.T) {
	for _, k := range asks() {
		a := made(t, 2, true)
		p, q := port(t, a, 4), port(t, a, 4)
		p.Grant()
		p.Grant()
		if !p.Open() || q.Open() {
			t.Fatal(k.kind, p.Open(), q.Open())
		}
		k.call(q, 0, 0, 1)
		if a.Count() != 0 || a.Faults() != 1 || !p.Open() {
			t.Fatal("another's grant was used", k.kind, a.Count(), a.Faults())
		}
		k.call(p, 0, 0, 1)
		k.call(p, 0, 0, 1)
		k.call(p, 1, 0, 1)
		if a.Count() != 1 || a.Faults() != 3 || len(logged(t, a)) != 1 {
			t.Fatal(k.kind, a.Count(), a.Faults())
		}
		p.Grant()
		k.call(p, 1, 0, 1)
		if a.Count() != 2 || a.Faults() != 3 {
			t.Fatal(k.kind, a.Count(), a.Faults())
		}
	}
}

// A port is one of its own arena alone.
func TestTwoArenas(t *testing.T) {
	a, b := made(t, 2, true), made(t, 2, true)
	p, q := port(t, a, 1), port(t, b, 1)
	p.Grant()
	p.Store(0, 8)
	q.Store(0, 9)
	if v, _ := b.Peek(0); v != 0 || b.Count() != 0 || b.Faults() != 1 || a.Count() != 1 || a.Faults() != 0 {
		t.Error(v, b.Count(), b.Faults(), a.Count(), a.Faults())
	}
}

func TestNothingIsKept(t *testing.T) {
	a := made(t, 2, false)
	p := port(t, a, 1)
	for range 5 {
		p.Grant()
		p.Or(1, 3)
	}
	if len(logged(t, a)) != 0 || a.Count() != 5 {
		t.Error(logged(t, a), a.Count())
	}
	if v, e := a.Peek(1); v != 3 || e != api.OK {
		t.Error(v, e)
	}
}

// play is an arena, a model of it, and the ports of both.
type play struct {
	a      *arena.Arena
	ports  []*arena.Port
	open   []bool
	cells  []uint64
	log    []api.Access
	count  int
	faults int
}

func begin(t *testing.T, s *seed, keep bool) *play {
	g := &play{a: made(t, 1+s.below(6), keep)}
	for range 5 {
		g.ports = append(g.ports, port(t, g.a, s.below(16)))
		g.open = append(g.open, false)
	}
	for at := range g.a.Cells() {
		g.cells = append(g.cells, s.word())
		g.a.Poke(at, g.cells[at])
	}
	return g
}

// call makes one call through one of the ports, and holds its answer against the model's.
func (g *play) call(t *testing.T, s *seed, keep bool) {
	t.Helper()
	i := s.below(len(g.ports))
	p := g.ports[i]
	if s.below(2) == 0 {
		p.Grant()
		g.open[i] = true
		return
	}
	k := asks()[s.below(len(asks()))]
	at, want, v := s.below(len(g.cells)+2)-1, s.word(), s.word()
	open := g.open[i]
	g.open[i] = false
	got := k.call(p, at, want, v)
	if !open || at < 0 || at >= len(g.cells) {
		g.faults++
		if got != 0 {
			t.Fatal("a fault answers", got)
		}
		return
	}
	answer, x := expected(k.kind, p.Who(), at, want, v, g.cells[at])
	if got != answer {
		t.Fatal(got, answer, x)
	}
	g.cells[at] = x.Left
	g.count++
	if keep {
		g.log = append(g.log, x)
	}
}

func (g *play) check(t *testing.T) {
	t.Helper()
	if !slices.Equal(g.a.Image(), g.cells) || g.a.Count() != g.count || g.a.Faults() != g.faults {
		t.Fatal(g.a.Image(), g.cells, g.a.Count(), g.count, g.a.Faults(), g.faults)
	}
	for i, p := range g.ports {
		if p.Open() != g.open[i] {
			t.Fatal("port", i, p.Open())
		}
	}
	if !slices.Equal(logged(t, g.a), g.log) {
		t.Fatal(logged(t, g.a), g.log)
	}
}

// P3.1 and P3.2: calls through many ports in many orders, each held against a model; the log is replayed.
func TestManyCalls(t *testing.T) {
	s := seed(88172645463325252)
	for round := range 60 {
		keep := round%3 != 0
		g := begin(t, &s, keep)
		initial := g.a.Image()
		for range 100 {
			g.call(t, &s, keep)
			g.check(t)
		}
		if !keep {
			continue
		}
		got, at, e := arena.Replay(initial, logged(t, g.a))
		if !slices.Equal(got, g.a.Image()) || at != 0 || e != api.OK {
			t.Fatal(got, at, e, g.a.Image())
		}
	}
}

// filled: an arena whose log has n accesses to one cell.
func filled(t *testing.T, n int) *arena.Arena {
	t.Helper()
	a := made(t, 2, true)
	p := port(t, a, 1)
	for i := range n {
		p.Grant()
		p.Store(1, uint64(i))
	}
	return a
}

func TestLogStopsAnywhereAndStartsAgain(t *testing.T) {
	a := filled(t, 7)
	all := a.Log()
	for stop := 1; stop <= 8; stop++ {
		n := 0
		for i, x := range all {
			if i != n || x.Put != uint64(n) {
				t.Fatal(i, x, n)
			}
			n++
			if n == stop {
				break
			}
		}
		if n != min(stop, 7) {
			t.Fatal(stop, n)
		}
	}
	// One inside the other.
	pairs := 0
	for range all {
		for range all {
			pairs++
		}
	}
	if pairs != 49 {
		t.Error(pairs)
	}
}

// The log's iterator tells what had been done when it was asked for.
func TestLogSoFar(t *testing.T) {
	for n := range 20 {
		a := filled(t, n)
		first := a.Log()
		p := port(t, a, 2)
		seen := 0
		for i := range first {
			seen++
			p.Grant()
			p.Store(0, uint64(i))
		}
		p.Grant()
		p.Store(0, 99)
		again := 0
		for i, x := range first {
			if x.Who != 1 || x.Put != uint64(i) {
				t.Fatal(i, x)
			}
			again++
		}
		if seen != n || again != n || len(logged(t, a)) != 2*n+1 {
			t.Fatal(n, seen, again, len(logged(t, a)))
		}
	}
}

// P3.4.
func TestImageIsNewMemory(t *testing.T) {
	a := made(t, 3, true)
	a.Poke(1, 4)
	first, second := a.Image(), a.Image()
	first[1] = 9
	_ = append(first[:1], 8, 8)
	if v, _ := a.Peek(1); v != 4 || second[1] != 4 || second[2] != 0 {
		t.Error(v, second)
	}
	p := port(t, a, 0)
	p.Grant()
	p.Store(2, 6)
	if second[2] != 0 {
		t.Error("an image follows its arena", second)
	}
}

func TestNilArena(t *testing.T) {
	var a *arena.Arena
	if a.Cells() != 0 || a.Count() != 0 || a.Faults() != 0 || len(a.Image()) != 0 {
		t.Error("numbers of no arena")
	}
	for _, at := range []int{math.MinInt, -1, 0, 1, math.MaxInt} {
		if v, e := a.Peek(at); v != 0 || e != api.ErrNil {
			t.Error("Peek", at, v, e)
		}
		if e := a.Poke(at, 1); e != api.ErrNil {
			t.Error("Poke", at, e)
		}
		if p, e := a.Port(at); p != nil || e != api.ErrNil {
			t.Error("Port", at, p, e)
		}
	}
	log := a.Log()
	if log == nil {
		t.Fatal("no iterator")
	}
	for range 2 {
		for i, x := range log {
			t.Error("a log of no arena", i, x)
		}
	}
}

func TestNilPort(t *testing.T) {
	var p *arena.Port
	p.Grant()
	if p.Open() || p.Who() != 0 {
		t.Error(p.Open(), p.Who())
	}
	for _, k := range asks() {
		for _, at := range []int{-1, 0, 1} {
			if got := k.call(p, at, 0, 7); got != 0 {
				t.Error(k.kind, at, got)
			}
		}
	}
}

// Structs that no call made are used like those of nothing.
func TestEmptyStructs(t *testing.T) {
	a := new(arena.Arena)
	if v, e := a.Peek(0); a.Cells() != 0 || len(a.Image()) != 0 || v != 0 || e != api.ErrAddr || a.Poke(0, 1) != api.ErrAddr {
		t.Error("an empty arena")
	}
	p := new(arena.Port)
	for _, k := range asks() {
		p.Grant()
		if got := k.call(p, 0, 0, 7); got != 0 || p.Open() {
			t.Error(k.kind, got)
		}
	}
}

// access: one that is made to cells that hold seen.
func access(kind int, at int, want, put, seen, left uint64) api.Access {
	return api.Access{Kind: kind, At: at, Want: want, Put: put, Seen: seen, Left: left}
}

func TestReplay(t *testing.T) {
	cells := []uint64{3, 4}
	log := []api.Access{
		access(api.AccLoad, 0, 77, 88, 3, 3),
		access(api.AccStore, 0, 77, 5, 3, 5),
		access(api.AccSwap, 1, 77, 6, 4, 6),
		access(api.AccCas, 0, 5, 9, 5, 9),
		access(api.AccCas, 0, 5, 1, 9, 9),
		access(api.AccOr, 1, 77, 9, 6, 15),
		access(api.AccAnd, 1, 77, 5, 15, 5),
	}
	log[2].Who = math.MinInt
	got, at, e := arena.Replay(cells, log)
	if !slices.Equal(got, []uint64{9, 5}) || at != 0 || e != api.OK {
		t.Error(got, at, e)
	}
	got, at, e = arena.Replay(nil, nil)
	if len(got) != 0 || at != 0 || e != api.OK {
		t.Error(got, at, e)
	}
	got, at, e = arena.Replay(cells, nil)
	if !slices.Equal(got, cells) || at != 0 || e != api.OK {
		t.Error(got, at, e)
	}
}

func TestReplayErrors(t *testing.T) {
	fine := access(api.AccStore, 1, 0, 2, 4, 2)
	type wrong struct {
		x api.Access
		e api.Errno
	}
	wrongs := []wrong{
		{access(api.AccLoad, 0, 0, 0, 4, 4), api.ErrForm},
		{access(api.AccLoad, 0, 0, 7, 3, 7), api.ErrForm},
		{access(api.AccStore, 0, 0, 7, 3, 8), api.ErrForm},
		{access(api.AccStore, 0, 0, 7, 2, 7), api.ErrForm},
		{access(api.AccSwap, 0, 0, 7, 3, 3), api.ErrForm},
		{access(api.AccSwap, 0, 0, 7, 0, 7), api.ErrForm},
		{access(api.AccCas, 0, 3, 7, 3, 3), api.ErrForm},
		{access(api.AccCas, 0, 2, 7, 3, 7), api.ErrForm},
		{access(api.AccCas, 0, 2, 7, 2, 7), api.ErrForm},
		{access(api.AccOr, 0, 0, 4, 3, 4), api.ErrForm},
		{access(api.AccAnd, 0, 0, 6, 3, 6), api.ErrForm},
		{access(api.AccAnd, 0, 0, 6, 3, 1), api.ErrForm},
	}
	for _, kind := range []int{math.MinInt, -1, 0, 7, 8, 1<<32 + 1, math.MaxInt} {
		wrongs = append(wrongs, wrong{access(kind, 0, 3, 3, 3, 3), api.ErrForm})
	}
	for _, at := range wild(2) {
		wrongs = append(wrongs, wrong{access(api.AccLoad, at, 0, 0, 0, 0), api.ErrAddr})
		// Wrong in all ways: that there is no cell comes first.
		wrongs = append(wrongs, wrong{access(0, at, 0, 0, 1, 2), api.ErrAddr})
	}
	for _, w := range wrongs {
		for n := range 3 {
			log := []api.Access{fine, access(api.AccLoad, 1, 0, 0, 2, 2)}[:n]
			log = append(slices.Clone(log), w.x, access(0, 9, 0, 0, 0, 0))
			got, at, e := arena.Replay([]uint64{3, 4}, log)
			if len(got) != 0 || at != n || e != w.e {
				t.Errorf("%v behind %d others: %v, %d, %d", w.x, n, got, at, e)
			}
		}
	}
	if got, at, e := arena.Replay(nil, []api.Access{fine}); len(got) != 0 || at != 0 || e != api.ErrAddr {
		t.Error(got, at, e)
	}
}

// Each change of a log's Seen or Left is found, and found where it is.
func TestReplayFindsChanges(t *testing.T) {
	s := seed(1234567891011)
	g := begin(t, &s, true)
	initial := g.a.Image()
	for range 150 {
		g.call(t, &s, true)
	}
	log := logged(t, g.a)
	for i := range log {
		seen, left := slices.Clone(log), slices.Clone(log)
		seen[i].Seen ^= 1 << s.below(64)
		left[i].Left ^= 1 << s.below(64)
		for _, changed := range [][]api.Access{seen, left} {
			if got, at, e := arena.Replay(initial, changed); len(got) != 0 || at != i || e != api.ErrForm {
				t.Fatalf("%v: %v, %d, %d", changed[i], got, at, e)
			}
		}
	}
}

func TestReplayLeavesItsArguments(t *testing.T) {
	whole := []uint64{3, 4, 5, 6}
	log := []api.Access{access(api.AccStore, 0, 0, 9, 3, 9), access(api.AccStore, 1, 0, 8, 4, 8), access(0, 0, 0, 0, 0, 0)}
	asked := slices.Clone(log)
	got, _, e := arena.Replay(whole[:2], log[:2])
	if e != api.OK || !slices.Equal(got, []uint64{9, 8}) {
		t.Fatal(got, e)
	}
	arena.Replay(whole[:2], log)
	if !slices.Equal(whole, []uint64{3, 4, 5, 6}) || !slices.Equal(log, asked) {
		t.Error(whole, log)
	}
	got[0] = 1
	_ = append(got, 1, 1)
	if !slices.Equal(whole, []uint64{3, 4, 5, 6}) {
		t.Error("the result shares the argument's memory", whole)
	}
	got, _, _ = arena.Replay(whole[:2], nil)
	whole[0] = 7
	if got[0] != 3 {
		t.Error("the result shares the argument's memory", got)
	}
}

// Rule 5: the same calls give the same answers.
func TestTheSameAgain(t *testing.T) {
	run := func() ([]uint64, []api.Access) {
		s := seed(987654321)
		g := begin(t, &s, true)
		for range 200 {
			g.call(t, &s, true)
		}
		return g.a.Image(), logged(t, g.a)
	}
	image, log := run()
	image2, log2 := run()
	if !slices.Equal(image, image2) || !slices.Equal(log, log2) {
		t.Error("two runs differ")
	}
}
