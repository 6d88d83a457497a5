package drive_test

import (
	"math"
	"reflect"
	"runtime"
	"slices"
	"strconv"
	"testing"

	"windrow/api"
	"windrow/asm"
	"windrow/drive"
	"windrow/layout"
	"windrow/verify"
	"windrow/world"
)

// seed tells numbers without a pattern, the same ones in each run.
type seed uint64

func (s *seed) next() uint64 {
	*s = *s*6364136223846793005 + 1442695040888963407
	x := uint64(*s)
	return (x ^ x>>29) >> 11
}

func (s *seed) below(n int) int { return int(s.next() % uint64(n)) }

// program: the text of one that begins so many threads more, which share nodes, wait for one another, and have it collected what they drop; and which traps in the end may stop.
func (s *seed) program(more int) string {
	end := []string{"", "null\nget node n\ndrop\n", "const 1\nconst 0\ndiv\ndrop\n", "const 9\njoin\ndrop\n", "const 0\njoin\ndrop\n"}
	text := "class node n:int next:ref\nfunc main -> int\nlocals ref int int\npoll\nnew node\nstore 0\nload 0\nsetglobal 0\n"
	for range more {
		text += "load 0\nspawn work\nstore 2\n"
	}
	text += s.loop("more", 1)
	if more > 0 {
		text += "load 2\njoin\nout\n"
	}
	text += end[s.below(len(end))] + "load 1\nreturn\nend\n"
	text += "func work ref -> int\nlocals int int\npoll\n" + s.loop("again", 1)
	return text + end[s.below(len(end))] + "load 1\nreturn\nend\n"
}

// loop: instructions that are gone through some times.
func (s *seed) loop(label string, count int) string {
	l := []string{"new node\ndrop\n", "new node\ndup\nglobal 0\nput node next\nsetglobal 0\n", "null\nsetglobal 0\n", "load 0\nglobal 0\nput node next\n", "load 0\nload 0\nget node next\nnull\ncas node next\ndrop\n",
		"load 0\nload 0\nget node n\nconst 1\nadd\nput node n\n", "load 0\nget node n\nout\n", "const 20\nnewrefs\ndrop\n", "collect\n", "poll\n", "new node\nsetglobal 1\n"}
	c := strconv.Itoa(count)
	text := "const " + strconv.Itoa(5+s.below(20)) + "\nstore " + c + "\n" + label + ":\npoll\n"
	for range 2 + s.below(8) {
		text += l[s.below(len(l))]
	}
	return text + "load " + c + "\nconst 1\nsub\ndup\nstore " + c + "\njumpif " + label + "\n"
}

// picks: so many, by weights without a pattern, a few of them nobody's.
func (s *seed) picks(n int) []int {
	weights := []int{0, 0, 0, 0, 1, 1, 2, 3, 4, 5, world.Gatherer, world.Gatherer, world.Gatherer}
	for i := range weights {
		if s.below(3) == 0 {
			weights[i] = s.below(7)
		}
	}
	wrong := []int{-1, 7, 15, math.MinInt64, math.MaxInt64, 1 << 32}
	var l []int
	for range n {
		who := weights[s.below(len(weights))]
		if s.below(50) == 0 {
			who = wrong[s.below(len(wrong))]
		}
		l = append(l, who)
	}
	return l
}

func checked(t *testing.T, text string) *verify.Checked {
	t.Helper()
	p, line, e := asm.Parse(text)
	if e != api.OK {
		t.Fatalf("%s\n%d in line %d", text, e, line)
	}
	c, place, e := verify.Check(p)
	if e != api.OK {
		t.Fatalf("%s\n%d at %v", text, e, place)
	}
	return c
}

func made(t *testing.T, c *verify.Checked, cfg world.Config) *world.World {
	t.Helper()
	w, e := world.New(c, cfg)
	if e != api.OK {
		t.Fatal(e)
	}
	return w
}

// random: a program and a configuration without a pattern.
func (s *seed) random(t *testing.T) (*verify.Checked, world.Config) {
	t.Helper()
	cfg := world.Config{Pages: 1 + s.below(6), Threads: 1 + s.below(6), Ring: 1 + s.below(3), Marks: 1 + s.below(3), Keep: s.below(2) == 0}
	return checked(t, s.program(s.below(cfg.Threads+1))), cfg
}

// whole is all that can be seen of a world.
type whole struct {
	View                                  world.View
	Image                                 []uint64
	Log                                   []api.Access
	Outputs                               []api.Output
	Events                                []api.Event
	Plan                                  layout.Plan
	Count, Picks, Accesses, Faults, Freed int
	Over                                  bool
}

func seen(t *testing.T, w *world.World) whole {
	t.Helper()
	v, e := w.View()
	if e != api.OK {
		t.Fatal(e)
	}
	return whole{v, w.Image(), w.Log(), w.Outputs(), w.Events(), w.Plan(), w.Count(), w.Picks(), w.Accesses(), w.Faults(), w.Freed(), w.Over()}
}

// alike: are two worlds the same, as far as can be seen?
func alike(t *testing.T, a, b *world.World) {
	t.Helper()
	if x, y := seen(t, a), seen(t, b); !reflect.DeepEqual(x, y) {
		t.Fatalf("%+v\nis not\n%+v", x, y)
	}
}

const (
	small   = "func main\npoll\nconst 7\nout\nreturn\nend\n"
	endless = "func main\npoll\nmore:\npoll\njump more\nend\n"
)

var tight = world.Config{Pages: 1, Threads: 1, Ring: 1, Marks: 1}

// The chapter's example.
func TestExample(t *testing.T) {
	w := made(t, checked(t, small), tight)
	if n, e := drive.Run(w, make([]int, 20)); n != 4 || e != api.OK {
		t.Error(n, e)
	}
	if !slices.Equal(w.Outputs(), []api.Output{{N: 7}}) || !w.Over() {
		t.Error(w.Outputs(), w.Over())
	}
}

// P22.1: programs and picks without a pattern, in pieces: the world is what world.Run makes of it, and the picks stay as they are.
func TestRun(t *testing.T) {
	threads, freed, over := 0, 0, 0
	for i := range 100 {
		s := seed(2200 + i)
		c, cfg := s.random(t)
		a, b := made(t, c, cfg), made(t, c, cfg)
		for range 1 + s.below(8) {
			picks := s.picks(s.below(600))
			kept := slices.Clone(picks)
			got, e := drive.Run(a, picks)
			if !slices.Equal(picks, kept) {
				t.Fatal("the picks were changed")
			}
			if want, _ := b.Run(picks); got != want || e != api.OK {
				t.Fatal(got, e, want)
			}
			alike(t, a, b)
			// Nor are they kept.
			clear(picks)
			a.Turns(10)
			b.Turns(10)
			alike(t, a, b)
		}
		threads, freed = max(threads, a.Count()), freed+a.Freed()
		if a.Over() {
			over++
		}
	}
	if threads < 6 || freed < 100 || over < 10 {
		t.Errorf("hardly tried: %d threads, %d objects freed, %d over", threads, freed, over)
	}
}

// P22.1: picks of nobody are counted; there may be none.
func TestRunNobody(t *testing.T) {
	w := made(t, checked(t, small), tight)
	before := w.Image()
	for _, picks := range [][]int{nil, {}, {-1}, {7, math.MinInt64, math.MaxInt64, 1, 5, 65536}} {
		had := w.Picks()
		if n, e := drive.Run(w, picks); n != 0 || e != api.OK || w.Picks() != had+len(picks) || !slices.Equal(w.Image(), before) {
			t.Errorf("%v: %d, %d", picks, n, e)
		}
	}
	// A world that no call has made has nobody.
	if n, e := drive.Run(&world.World{}, []int{0, -1, 3}); n != 0 || e != api.OK {
		t.Error(n, e)
	}
}

// Run: as many picks as there may be at once, and one more.
func TestRunLimits(t *testing.T) {
	w := made(t, checked(t, endless), tight)
	for _, picks := range [][]int{nil, {0}, make([]int, api.MaxPicks+1)} {
		if n, e := drive.Run(nil, picks); n != 0 || e != api.ErrNil {
			t.Error(n, e)
		}
	}
	before := w.Image()
	if n, e := drive.Run(w, make([]int, api.MaxPicks+1)); n != 0 || e != api.ErrBig || w.Picks() != 0 || !slices.Equal(w.Image(), before) {
		t.Error(n, e, w.Picks())
	}
	if n, e := drive.Run(w, make([]int, api.MaxPicks)); n != api.MaxPicks || e != api.OK || w.Picks() != api.MaxPicks {
		t.Error(n, e, w.Picks())
	}
}

// Run, Twin: all goroutines have ended.
func TestEnded(t *testing.T) {
	c := checked(t, endless)
	a, b := made(t, c, tight), made(t, c, tight)
	before := runtime.NumGoroutine()
	for range 200 {
		drive.Run(a, []int{0, 6, -1})
		drive.Run(a, nil)
		drive.Twin(a, b, []int{0, 6, 3})
		drive.Run(nil, nil)
		drive.Twin(a, a, nil)
	}
	// What has ended may be counted for a moment still.
	for range 1000 {
		if runtime.NumGoroutine() <= before {
			return
		}
		runtime.Gosched()
	}
	if n := runtime.NumGoroutine(); n > before+20 {
		t.Errorf("%d goroutines, not %d", n, before)
	}
}

// P22.2: two equal worlds stay so; and each is what world.Run makes of it.
func TestTwin(t *testing.T) {
	for i := range 60 {
		s := seed(2250 + i)
		c, cfg := s.random(t)
		a, b, alone := made(t, c, cfg), made(t, c, cfg), made(t, c, cfg)
		for range 1 + s.below(5) {
			picks := s.picks(s.below(700))
			kept := slices.Clone(picks)
			want, _ := alone.Run(picks)
			x, y, e := drive.Twin(a, b, picks)
			if x != want || y != want || e != api.OK {
				t.Fatal(x, y, e, want)
			}
			if !slices.Equal(picks, kept) {
				t.Fatal("the picks were changed")
			}
			alike(t, a, b)
			alike(t, a, alone)
		}
	}
}

// Twin: two worlds that aren't equal, even of two programs: each does what it does by itself, and the numbers come in their order.
func TestTwinOthers(t *testing.T) {
	differ := 0
	for i := range 40 {
		s := seed(2290 + i)
		c, cfg := s.random(t)
		a, aloneA := made(t, c, cfg), made(t, c, cfg)
		if i%2 == 0 {
			c, cfg = s.random(t)
		}
		cfg.Pages++
		b, aloneB := made(t, c, cfg), made(t, c, cfg)
		for range 3 {
			picks := s.picks(s.below(700))
			wantA, _ := aloneA.Run(picks)
			wantB, _ := aloneB.Run(picks)
			x, y, e := drive.Twin(a, b, picks)
			if x != wantA || y != wantB || e != api.OK {
				t.Fatal(x, y, e, wantA, wantB)
			}
			if x != y {
				differ++
			}
			alike(t, a, aloneA)
			alike(t, b, aloneB)
		}
	}
	if differ < 20 {
		t.Errorf("only %d pairs of numbers differ", differ)
	}
}

// Twin: nothing where a world must be, one world twice, too many picks; the first of these that holds.
func TestTwinErrors(t *testing.T) {
	c := checked(t, endless)
	a, b := made(t, c, tight), made(t, c, tight)
	most, above := make([]int, api.MaxPicks), make([]int, api.MaxPicks+1)
	for _, x := range []struct {
		a, b  *world.World
		picks []int
		e     api.Errno
	}{
		{nil, nil, nil, api.ErrNil}, {a, nil, []int{0}, api.ErrNil}, {nil, a, []int{0}, api.ErrNil}, {nil, nil, above, api.ErrNil}, {a, nil, above, api.ErrNil}, {nil, b, above, api.ErrNil},
		{a, a, []int{0}, api.ErrState}, {a, a, nil, api.ErrState}, {b, b, above, api.ErrState},
		{a, b, above, api.ErrBig},
	} {
		if n, m, e := drive.Twin(x.a, x.b, x.picks); n != 0 || m != 0 || e != x.e {
			t.Errorf("%p %p, %d picks: %d, %d, %d", x.a, x.b, len(x.picks), n, m, e)
		}
	}
	if a.Picks()+b.Picks() != 0 {
		t.Error("a call that failed has picked")
	}
	if n, m, e := drive.Twin(a, b, nil); n != 0 || m != 0 || e != api.OK {
		t.Error(n, m, e)
	}
	if n, m, e := drive.Twin(a, b, most); n != len(most) || m != len(most) || e != api.OK || a.Picks() != len(most) || b.Picks() != len(most) {
		t.Error(n, m, e)
	}
}
