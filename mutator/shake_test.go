package mutator_test

import (
	"slices"
	"testing"

	"windrow/api"
	"windrow/header"
	"windrow/layout"
	"windrow/mutator"
	"windrow/ring"
	"windrow/tlab"
)

// waiting: what the thread's ring has.
func (s *stand) waiting() []int64 {
	s.Helper()
	words, e := ring.Waiting(s.a, s.plan, s.n)
	if e != api.OK {
		s.Fatal(e)
	}
	var l []int64
	for _, w := range words {
		l = append(l, int64(w))
	}
	return l
}

// stores: the accesses of some that change a cell.
func stores(l []api.Access) []api.Access {
	return slices.DeleteFunc(slices.Clone(l), func(x api.Access) bool { return x.Kind == api.AccLoad })
}

// At a poll the thread responds to a handshake, once, and nowhere else.
func TestHandshakes(t *testing.T) {
	s := main(t, "more:\npoll\nconst 1\ndrop\nglobal 0\nsetglobal 0\njump more")
	want := []struct {
		kind    uint64
		barrier bool
		colour  int
		cycle   int
	}{
		{mutator.Arm, true, tlab.Grey, 0}, {mutator.Scan, true, tlab.Grey, 0}, {mutator.Blend, true, tlab.Black, 0}, {mutator.Check, true, tlab.Black, 0},
		{mutator.Check, true, tlab.Black, 0}, {mutator.Quiet, false, tlab.Black, 0}, {mutator.Off, false, tlab.White, 1}, {mutator.Arm, true, tlab.Grey, 1},
		{0, true, tlab.Grey, 1}, {7, true, tlab.Grey, 1}, {mutator.Quiet, false, tlab.Grey, 1}, {mutator.Off, false, tlab.White, 2},
	}
	seen := uint64(0)
	s.upTo("jump")
	for n, x := range want {
		epoch := uint64(8*(n+1)) + x.kind
		// A poll without a handshake changes nothing.
		if _, l := s.upTo("poll"); len(stores(l)) > 1 || s.m.Seen() != seen {
			t.Fatalf("%+v", l)
		}
		s.shake(epoch)
		for _, name := range []string{"const", "drop", "global", "setglobal", "jump"} {
			if s.upTo(name); s.peek(s.plan.Ack(0)) != seen || s.m.Seen() != seen {
				t.Fatalf("%s responds", name)
			}
		}
		_, l := s.upTo("poll")
		if got := s.last(l); got != (api.Access{Kind: api.AccStore, At: s.plan.Ack(0), Put: epoch, Seen: seen, Left: epoch}) {
			t.Errorf("%+v", got)
		}
		if s.m.Seen() != epoch || s.m.Barrier() != x.barrier || s.m.Colour() != x.colour || s.m.Cycle() != x.cycle {
			t.Errorf("behind %d: %d, %v, %d, %d", epoch, s.m.Seen(), s.m.Barrier(), s.m.Colour(), s.m.Cycle())
		}
		seen = epoch
	}
	// Any other number is a handshake, a lower one, too.
	for _, epoch := range []uint64{mutator.Arm, 0, 1<<64 - 8 + mutator.Off, 8} {
		s.shake(epoch)
		if s.upTo("poll"); s.m.Seen() != epoch || s.peek(s.plan.Ack(0)) != epoch {
			t.Errorf("%d: %d", epoch, s.m.Seen())
		}
	}
	if !s.m.Barrier() || s.m.Colour() != tlab.White || s.m.Cycle() != 3 {
		t.Error(s.m.Barrier(), s.m.Colour(), s.m.Cycle())
	}
	if s.h.helped != 0 || len(s.waiting()) != 0 {
		t.Error(s.h.helped, s.waiting())
	}
}

// For Scan it shades each of its roots, those of all its frames, before it responds. Until then they are in flight.
func TestScan(t *testing.T) {
	body := "class a\nfunc main\nlocals ref ref int\npoll\nnew a\nstore 0\nnew a\nstore 1\nnew a\nsetglobal 0\nnew a\nnew a\nload 0\nconst 70\ncall work\ndrop\ndrop\nreturn\nend\n" +
		"func work ref int\nlocals ref ref\npoll\nnew a\nload 0\nnull\npoll\ndrop\ndrop\ndrop\nreturn\nend"
	for ringed := 1; ringed <= 8; ringed++ {
		s := stood(t, planned(t, 2, 1, ringed), 0, body)
		var made []int64
		for range 6 {
			event, _ := s.upTo("new")
			made = append(made, event.Addr)
		}
		s.upTo("null")
		roots := slices.Clone(s.m.Roots())
		// The third one is a global alone, the first one is there thrice.
		reached := []int64{made[0], made[1], made[3], made[4], made[5]}
		s.shake(8 + mutator.Scan)
		flown := false
		for s.m.Seen() == 0 {
			for _, at := range reached {
				if len(s.m.Flight()) > 0 && !s.marked(at) && !slices.Contains(s.m.Flight(), at) {
					t.Error(at, "is not in flight")
				}
			}
			flown = flown || len(s.m.Flight()) > 1
			if s.peek(s.plan.Ack(0)) != 0 || slices.Contains(s.m.Flight(), 0) {
				t.Fatal("it has responded already")
			}
			s.step()
		}
		if !flown || len(s.m.Flight()) != 0 || !slices.Equal(s.m.Roots(), roots) || s.peek(s.plan.Ack(0)) != 8+mutator.Scan {
			t.Error(flown, s.m.Flight(), s.m.Roots())
		}
		for _, at := range made {
			if s.marked(at) != (at != made[2]) {
				t.Error(at, s.marked(at))
			}
		}
		got := s.waiting()
		slices.Sort(got)
		want := 5
		if ringed < 5 {
			want = ringed
		}
		if len(got) != want || len(slices.Compact(got)) != want || s.peek(layout.Over) != uint64(min(1, max(0, 5-ringed))) {
			t.Errorf("ring of %d: %v, Over %d", ringed, got, s.peek(layout.Over))
		}
		// What is marked isn't put into the ring once more.
		s.finish()
		if len(s.waiting()) != want {
			t.Error(s.waiting())
		}
	}
}

// For Off it gives back its pages before it responds.
func TestOff(t *testing.T) {
	s := main(t, "new box\nstore 0\nnew pair\nstore 1\nmore:\npoll\ncollect\njump more")
	s.upTo("collect")
	s.shake(8 + mutator.Off)
	for s.m.Seen() == 0 {
		if s.peek(s.plan.Ack(0)) != 0 || s.m.Cycle() != 0 {
			t.Fatal("it has responded already")
		}
		s.step()
	}
	for i := range 2 {
		entry, e := header.DecodeEntry(s.peek(s.plan.Entry(i)))
		if e != api.OK || entry != (header.Entry{Kind: header.Small, Class: 2 * i}) {
			t.Errorf("page %d: %+v", i, entry)
		}
	}
	if !s.m.Retire().Over() || s.m.Cycle() != 1 || s.peek(s.plan.Ack(0)) != 8+mutator.Off {
		t.Error(s.m.Cycle())
	}
	// Without pages it only responds.
	s.upTo("poll")
	s.shake(16 + mutator.Off)
	if _, l := s.upTo("poll"); s.m.Cycle() != 2 || len(stores(l)) > 2 {
		t.Error(s.m.Cycle(), l)
	}
}

// While it shades, the thread shades each reference that it has overwritten, before its next instruction.
func TestShading(t *testing.T) {
	keep := "new box\nstore 0\nload 0\nsetglobal 0\nload 0\nsetglobal 1\n"
	for _, x := range []struct {
		body, op string
		shades   bool
	}{
		{keep + "null\nsetglobal 0", "setglobal", true},
		{keep + "new pair\nsetglobal 0", "setglobal", true},
		{keep + "load 0\nsetglobal 0", "setglobal", true},
		{keep + "load 0\nsetglobal 2", "setglobal", false},
		{keep + "new pair\nstore 1\nload 1\nload 0\nput pair b\npoll\nload 1\nnull\nput pair b", "put", true},
		{keep + "new pair\nstore 1\nload 1\nload 0\nput pair b\npoll\nload 1\nload 1\nput pair a", "put", false},
		{keep + "new pair\nstore 1\nload 1\nload 0\nput pair a\nload 1\nconst 70\nput pair n\npoll\nload 1\nconst 80\nput pair n", "put", false},
		{keep + "const 40\nnewrefs\nstore 1\nload 1\nconst 39\nload 0\nsetref\npoll\nload 1\nconst 39\nload 1\nsetref", "setref", true},
		{keep + "const 40\nnewrefs\nstore 1\nload 1\nconst 38\nload 0\nsetref\npoll\nload 1\nconst 39\nload 0\nsetref", "setref", false},
		{keep + "const 3\nnewints\nstore 1\nload 1\nconst 1\nconst 64\nsetint\npoll\nload 1\nconst 1\nconst 0\nsetint", "setint", false},
		{keep + "new box\nstore 1\nload 1\nload 0\nput box to\npoll\nload 1\nload 0\nnull\ncas box to\ndrop", "cas", true},
		{keep + "new box\nstore 1\nload 1\nload 0\nput box to\npoll\nload 1\nload 0\nload 0\ncas box to\ndrop", "cas", true},
		{keep + "new box\nstore 1\nload 1\nload 0\nput box to\npoll\nload 1\nnull\nload 0\ncas box to\ndrop", "cas", false},
		{keep + "new box\nstore 1\npoll\nload 1\nnull\nload 0\ncas box to\ndrop", "cas", false},
		{keep + "new pair\nstore 1\nload 1\nconst 64\nput pair n\npoll\nload 1\nconst 64\nconst 0\ncas pair n\ndrop", "cas", false},
	} {
		for _, epoch := range []uint64{0, 8 + mutator.Arm, 8 + mutator.Scan, 8 + mutator.Quiet} {
			body := x.body + "\nconst 5\nout"
			s := main(t, body)
			event, _ := s.upTo("new")
			at := event.Addr
			s.upTo("setglobal")
			s.upTo("setglobal")
			// From here on there is one instruction with that name behind a last poll, or behind none.
			if s.m.Serve(epoch); epoch == 8+mutator.Scan {
				// Marks are set elsewhere; it shades as it did.
				s.m.Serve(16 + mutator.Arm)
				s.m.Serve(epoch)
			}
			s.shake(epoch)
			page, word := s.plan.Place(int(at))
			for s.upTo(x.op); hasMore(s, x.op); s.upTo(x.op) {
				s.poke(s.plan.Mark(page), 0)
			}
			fresh := !s.marked(at)
			before := s.waiting()
			barrier := epoch == 8+mutator.Arm || epoch == 8+mutator.Scan
			if got := slices.Contains(s.m.Flight(), at); got != (x.shades && barrier) || !fresh {
				t.Errorf("%q with %d: in flight %v, fresh %v", x.body, epoch, got, fresh)
			}
			var turn mutator.Turn
			for !turn.Done {
				if got := s.m.Flight(); x.shades && barrier && !s.marked(at) && !slices.Contains(got, at) {
					t.Errorf("%q with %d: it is lost: %v", x.body, epoch, got)
				}
				turn = s.step()
			}
			marked := s.peek(s.plan.Mark(page))>>word&1 == 1
			added := len(s.waiting()) == len(before)+1 && s.waiting()[len(before)] == at
			if want := x.shades && barrier; marked != want || added != want || len(s.m.Flight()) != 0 {
				t.Errorf("%q with %d: marked %v, added %v, %v", x.body, epoch, marked, added, s.m.Flight())
			}
			if s.finish(); !slices.Equal(s.h.told, []int64{5}) {
				t.Error(s.h.told)
			}
		}
	}
}

// hasMore: does another instruction with that name follow?
func hasMore(s *stand, name string) bool {
	v := s.m.View()
	f := v.Frames[len(v.Frames)-1]
	for pc := f.Pc; ; pc++ {
		ins, e := s.ins(f.Fn, pc)
		if e != api.OK {
			return false
		}
		if ins == name {
			return true
		}
	}
}

// Shading tells a full ring by Over, and an object that is marked already is not put into the ring.
func TestShadingFull(t *testing.T) {
	s := stood(t, planned(t, 1, 1, 1), 0, text("new box\nsetglobal 0\nnew box\nsetglobal 1\nnew box\nsetglobal 2\npoll\nnull\nsetglobal 0\nnull\nsetglobal 1\nglobal 3\nsetglobal 2\ncollect"))
	var made []int64
	for range 3 {
		event, _ := s.upTo("new")
		made = append(made, event.Addr)
	}
	page, word := s.plan.Place(int(made[2]))
	s.poke(s.plan.Mark(page), 1<<word)
	s.shake(8 + mutator.Arm)
	s.upTo("null")
	s.upTo("null")
	if !slices.Equal(s.waiting(), made[:1]) || s.peek(layout.Over) != 0 {
		t.Error(s.waiting(), s.peek(layout.Over))
	}
	s.upTo("global")
	if !s.marked(made[1]) || !slices.Equal(s.waiting(), made[:1]) || s.peek(layout.Over) != 1 {
		t.Error(s.waiting(), s.peek(layout.Over))
	}
	s.poke(layout.Over, 0)
	s.poke(s.plan.Head(0), 1)
	s.upTo("collect")
	if len(s.waiting()) != 0 || s.peek(layout.Over) != 0 {
		t.Error(s.waiting(), s.peek(layout.Over))
	}
}

// New objects are grey behind Arm, black behind Blend, and white behind Off.
func TestColours(t *testing.T) {
	s := stood(t, planned(t, 4, 1, 1), 0, text("more:\npoll\nnew box\ndrop\ncollect\njump more"))
	waiting := 0
	for n, kind := range []uint64{mutator.Check, mutator.Arm, mutator.Scan, mutator.Blend, mutator.Check, mutator.Quiet, mutator.Off} {
		s.shake(uint64(8*(n+1)) + kind)
		s.upTo("poll")
		event, _ := s.upTo("new")
		s.upTo("collect")
		grey := kind == mutator.Arm || kind == mutator.Scan
		if s.marked(event.Addr) != (n >= 1 && kind != mutator.Off) {
			t.Error(n, "marked", s.marked(event.Addr))
		}
		if grey {
			waiting++
		}
		// The ring has one slot: the second grey one is told by Over.
		if len(s.waiting()) != min(1, waiting) || s.peek(layout.Over) != uint64(max(0, waiting-1)) {
			t.Error(n, s.waiting(), s.peek(layout.Over))
		}
	}
}
