package mutator_test

import (
	"math"
	"slices"
	"strconv"
	"strings"
	"testing"

	"windrow/api"
	"windrow/code"
	"windrow/layout"
	"windrow/mutator"
)

// The chapter's table: with which access an instruction takes effect, and what that is.

func TestGlobals(t *testing.T) {
	for g := range api.Globals {
		n := strconv.Itoa(g)
		s := main(t, "new box\nstore 0\nload 0\nsetglobal "+n+"\nglobal "+n+"\nstore 1\nnull\nsetglobal "+n+"\nglobal "+n+"\nisnull\nout")
		made, _ := s.upTo("new")
		at, cell := uint64(made.Addr), s.plan.Global(g)
		_, l := s.upTo("setglobal")
		if got := s.last(l); got != (api.Access{Kind: api.AccSwap, At: cell, Put: at, Left: at}) {
			t.Errorf("%+v", got)
		}
		_, l = s.upTo("global")
		if got := s.last(l); got != (api.Access{Kind: api.AccLoad, At: cell, Seen: at, Left: at}) || s.top() != (api.Value{Type: api.Ref, N: int64(at)}) {
			t.Errorf("%+v, %+v", got, s.top())
		}
		_, l = s.upTo("setglobal")
		if got := s.last(l); got != (api.Access{Kind: api.AccSwap, At: cell, Seen: at}) {
			t.Errorf("%+v", got)
		}
		if s.finish(); !slices.Equal(s.h.told, []int64{1}) {
			t.Error(s.h.told)
		}
	}
}

// word: an instruction that uses a word of an object takes effect with an access to that word, which comes behind the load of the header.
func (s *stand) word(name string, at int64, i int, want api.Access) {
	s.Helper()
	event, l := s.upTo(name)
	want.At = int(at) + 1 + i
	if got := s.last(l); got != want || event.Trap != 0 {
		s.Errorf("%s: %+v, not %+v", name, got, want)
	}
	if len(l) < 2 || l[len(l)-2].Kind != api.AccLoad || l[len(l)-2].At != int(at) {
		s.Errorf("%s: %+v", name, l)
	}
}

func TestFields(t *testing.T) {
	s := main(t, "new pair\nstore 0\nnew pair\nstore 1\nload 0\nload 1\nput pair b\nload 0\nconst -9\nput pair n\nload 0\nget pair b\nstore 2\nload 0\nget pair n\nout\n"+
		"load 0\nnull\nput pair b\nload 0\nget pair b\nisnull\nout\nload 0\nconst 5\nconst 6\ncas pair n\nout\nload 0\nconst -9\nconst 6\ncas pair n\nout\n"+
		"load 0\nload 1\nload 0\ncas pair a\nout\nload 0\nnull\nload 1\ncas pair a\nout")
	first, _ := s.upTo("new")
	second, _ := s.upTo("new")
	a, b, minus := uint64(first.Addr), uint64(second.Addr), uint64(math.MaxUint64-8)
	s.word("put", first.Addr, 1, api.Access{Kind: api.AccSwap, Put: b, Left: b})
	s.word("put", first.Addr, 2, api.Access{Kind: api.AccStore, Put: minus, Left: minus})
	s.word("get", first.Addr, 1, api.Access{Kind: api.AccLoad, Seen: b, Left: b})
	if s.top() != (api.Value{Type: api.Ref, N: second.Addr}) {
		t.Errorf("%+v", s.top())
	}
	s.word("get", first.Addr, 2, api.Access{Kind: api.AccLoad, Seen: minus, Left: minus})
	s.word("put", first.Addr, 1, api.Access{Kind: api.AccSwap, Seen: b})
	s.word("get", first.Addr, 1, api.Access{Kind: api.AccLoad})
	s.word("cas", first.Addr, 2, api.Access{Kind: api.AccCas, Want: 5, Put: 6, Seen: minus, Left: minus})
	if s.top() != (api.Value{Type: api.Int, N: 0}) {
		t.Errorf("%+v", s.top())
	}
	s.word("cas", first.Addr, 2, api.Access{Kind: api.AccCas, Want: minus, Put: 6, Seen: minus, Left: 6})
	if s.top() != (api.Value{Type: api.Int, N: 1}) {
		t.Errorf("%+v", s.top())
	}
	s.word("cas", first.Addr, 0, api.Access{Kind: api.AccCas, Want: b, Put: a})
	s.word("cas", first.Addr, 0, api.Access{Kind: api.AccCas, Put: b, Left: b})
	if s.finish(); !slices.Equal(s.h.told, []int64{-9, 1, 0, 1, 0, 1}) {
		t.Error(s.h.told)
	}
}

func TestArrays(t *testing.T) {
	for _, last := range []int{0, 1, 30, 31, 100, 126} {
		size, i := strconv.Itoa(last+1), strconv.Itoa(last)
		s := main(t, "const "+size+"\nnewints\nstore 0\nload 0\nconst "+i+"\nconst 44\nsetint\nload 0\nconst "+i+"\nintat\nout\nload 0\nlen\nout")
		made, _ := s.upTo("newints")
		s.word("setint", made.Addr, last, api.Access{Kind: api.AccStore, Put: 44, Left: 44})
		s.word("intat", made.Addr, last, api.Access{Kind: api.AccLoad, Seen: 44, Left: 44})
		_, l := s.upTo("len")
		if len(l) > 3 || !slices.ContainsFunc(l, func(x api.Access) bool { return x.Kind == api.AccLoad && x.At == int(made.Addr) }) {
			t.Errorf("%+v", l)
		}
		if s.finish(); !slices.Equal(s.h.told, []int64{44, int64(last) + 1}) {
			t.Error(s.h.told)
		}
		s = main(t, "const "+size+"\nnewrefs\nstore 0\nload 0\nconst "+i+"\nload 0\nsetref\nload 0\nconst "+i+"\nrefat\nstore 1\nload 0\nlen\nout")
		made, _ = s.upTo("newrefs")
		at := uint64(made.Addr)
		s.word("setref", made.Addr, last, api.Access{Kind: api.AccSwap, Put: at, Left: at})
		s.word("refat", made.Addr, last, api.Access{Kind: api.AccLoad, Seen: at, Left: at})
		if s.top() != (api.Value{Type: api.Ref, N: made.Addr}) {
			t.Errorf("%+v", s.top())
		}
		if s.finish(); !slices.Equal(s.h.told, []int64{int64(last) + 1}) {
			t.Error(s.h.told)
		}
	}
}

// Each trap, with no access but the load of the header, and at once.
func TestTraps(t *testing.T) {
	pair, box, ints, refs := "new pair\n", "new box\n", "const 3\nnewints\n", "const 3\nnewrefs\n"
	for _, x := range []struct {
		body string
		trap int
		seen bool // the header is loaded
	}{
		{"null\nget pair n\ndrop", api.TrapNull, false},
		{"null\nnull\nput box to", api.TrapNull, false},
		{"null\nnull\nnull\ncas box to\ndrop", api.TrapNull, false},
		{"null\nlen\ndrop", api.TrapNull, false},
		{"null\nconst 9\nintat\ndrop", api.TrapNull, false},
		{"null\nconst 9\nnull\nsetref", api.TrapNull, false},
		{"const 1\nconst 0\nrem\ndrop", api.TrapZero, false},
		{"const -1\nnewints\ndrop", api.TrapSize, false},
		{"const 256\nnewrefs\ndrop", api.TrapSize, false},
		{pair + "get box to\ndrop", api.TrapClass, true},
		{box + "get pair n\ndrop", api.TrapClass, true},
		{ints + "get pair n\ndrop", api.TrapClass, true},
		{refs + "null\nput pair a", api.TrapClass, true},
		{"new none\nnull\nnull\ncas pair a\ndrop", api.TrapClass, true},
		{pair + "len\ndrop", api.TrapClass, true},
		{"new none\nlen\ndrop", api.TrapClass, true},
		{pair + "const 0\nrefat\ndrop", api.TrapClass, true},
		{refs + "const 0\nintat\ndrop", api.TrapClass, true},
		{ints + "const 0\nrefat\ndrop", api.TrapClass, true},
		{ints + "const -1\nnull\nsetref", api.TrapClass, true},
		{refs + "const 3\nconst 1\nsetint", api.TrapClass, true},
		{pair + "const 100\nconst 1\nsetint", api.TrapClass, true},
		{ints + "const 3\nintat\ndrop", api.TrapBounds, true},
		{ints + "const -1\nintat\ndrop", api.TrapBounds, true},
		{ints + "const 4294967296\nintat\ndrop", api.TrapBounds, true},
		{ints + "const -9223372036854775808\nconst 1\nsetint", api.TrapBounds, true},
		{ints + "const 9223372036854775807\nconst 1\nsetint", api.TrapBounds, true},
		{refs + "const 3\nrefat\ndrop", api.TrapBounds, true},
		{refs + "const 4\nnull\nsetref", api.TrapBounds, true},
		{"const 0\nnewrefs\nconst 0\nrefat\ndrop", api.TrapBounds, true},
		{"const 0\nnewints\nconst 0\nconst 0\nsetint", api.TrapBounds, true},
	} {
		s := main(t, x.body)
		words := strings.Fields(x.body)
		var event api.Event
		var l []api.Access
		for event.Trap == 0 {
			if event, l = s.next(); event.Op == code.Return {
				t.Fatal(x.body)
			}
		}
		// What is left of the instruction ahead is none of it.
		if len(l) > 0 {
			l = l[len(l)-1:]
		}
		if event.Trap != x.trap || x.seen != (len(l) == 1 && l[0].Kind == api.AccLoad) || !slices.Contains(words, code.Name(event.Op)) {
			t.Errorf("%q: %+v with %+v", x.body, event, l)
		}
		if v := s.m.View(); v.Status != api.Trapped || v.Trap != x.trap {
			t.Errorf("%q: %+v", x.body, v)
		}
		if s.finish(); s.peek(s.plan.Result(0)) != 0 || s.peek(s.plan.Status(0)) != mutator.Gone {
			t.Errorf("%q: it isn't gone", x.body)
		}
	}
	s := stood(t, planned(t, 1, 1, 1), 0, "func main\npoll\ncall main\nreturn\nend")
	n := 0
	for event, _ := s.next(); event.Trap == 0; event, _ = s.next() {
		if event.Op == code.Call {
			n++
		}
	}
	if s.m.View().Trap != api.TrapFrames || n != 11 {
		t.Error(n, s.m.View())
	}
}

// The host is told a number when out takes effect, and without room for it the thread is stopped.
func TestOut(t *testing.T) {
	s := main(t, "const 4\nout\nconst -5\nout\nconst 6\nout\nconst 7\nout")
	for n, want := range []int64{4, -5} {
		s.upTo("const")
		if len(s.h.told) != n {
			t.Error(s.h.told)
		}
		event, l := s.upTo("out")
		if event.Trap != 0 || len(l) != 0 || len(s.h.told) != n+1 || s.h.told[n] != want {
			t.Errorf("%+v, %+v, %v", event, l, s.h.told)
		}
	}
	s.h.full = true
	if event, l := s.upTo("out"); event.Trap != api.TrapOutputs || len(l) != 0 || s.m.View().Trap != api.TrapOutputs || len(s.h.told) != 2 {
		t.Errorf("%+v, %v", event, s.h.told)
	}
	s.finish()
}

func TestCollect(t *testing.T) {
	for _, before := range []uint64{0, 1, 7} {
		s := main(t, "collect\nconst 1\nout")
		s.poke(layout.Request, before)
		if _, l := s.upTo("collect"); s.last(l) != (api.Access{Kind: api.AccStore, At: layout.Request, Put: 1, Seen: before, Left: 1}) {
			t.Errorf("%+v", l)
		}
		if s.finish(); s.h.helped != 0 {
			t.Error("nobody has asked for the collector's steps")
		}
	}
}

// Instructions that need nothing from outside make no access.
func TestInner(t *testing.T) {
	s := main(t, "const 3\nstore 3\nload 3\nconst 4\nswap\ndup\ndrop\nadd\nconst 2\nsub\nneg\nconst 7\nmul\nconst 2\ndiv\nconst 4\nrem\nconst 1\neq\nconst 5\nless\n"+
		"jumpif on\nnull\ndrop\non:\nnull\nnull\nsame\nnull\nisnull\nadd\nout\njump end\nend:")
	var ops []int
	for s.m.View().Status == api.Running {
		event, l := s.next()
		if event.Op != code.Poll && len(l) != 0 {
			t.Errorf("%+v: %+v", event, l)
		}
		ops = append(ops, event.Op)
	}
	for op := code.Const; op <= code.Jump; op++ {
		if !slices.Contains(ops, op) {
			t.Errorf("%s was not performed", code.Name(op))
		}
	}
	if !slices.Equal(s.h.told, []int64{2}) {
		t.Error(s.h.told)
	}
}

// A new object is made by the thread's buffers; the instruction takes effect when it is allocated, and not before.
func TestMake(t *testing.T) {
	for _, x := range []struct {
		body, op string
		head     uint64
		words    int
	}{
		{"new pair", "new", 0xA5<<56 | 3<<16 | 0<<8 | 1, 3},
		{"new box", "new", 0xA5<<56 | 1<<16 | 1<<8 | 1, 1},
		{"new none", "new", 0xA5<<56 | 0<<16 | 2<<8 | 1, 0},
		{"const 0\nnewints", "newints", 0xA5<<56 | 2, 0},
		{"const 31\nnewints", "newints", 0xA5<<56 | 31<<16 | 2, 31},
		{"const 32\nnewrefs", "newrefs", 0xA5<<56 | 32<<16 | 3, 32},
		{"const 100\nnewrefs", "newrefs", 0xA5<<56 | 100<<16 | 3, 100},
		{"const 255\nnewints", "newints", 0xA5<<56 | 255<<16 | 2, 255},
	} {
		for _, kind := range []uint64{mutator.Off, mutator.Arm, mutator.Blend} {
			s := stood(t, planned(t, 8, 1, 4), 0, text(x.body+"\ndrop\n"+x.body+"\nisnull\nout"))
			for at := s.plan.Base(); at < s.plan.Cells(); at++ {
				s.poke(at, 77)
			}
			s.shake(8 + kind)
			for range 2 {
				var turn mutator.Turn
				for !turn.Done || code.Name(turn.Event.Op) != x.op {
					if len(s.allocated()) > 0 && turn.Done && turn.Event.Addr != 0 {
						t.Error("too early", turn)
					}
					turn = s.step()
				}
				event := turn.Event
				all := s.allocated()
				if event.Addr == 0 || all[len(all)-1] != event.Addr || s.top() != (api.Value{Type: api.Ref, N: event.Addr}) {
					t.Errorf("%s: %+v, %v, %+v", x.body, event, all, s.top())
				}
				if s.peek(int(event.Addr)) != x.head || s.marked(event.Addr) != (kind != mutator.Off) {
					t.Errorf("%s: %x, %v", x.body, s.peek(int(event.Addr)), s.marked(event.Addr))
				}
				for i := range x.words {
					if s.peek(int(event.Addr)+1+i) != 0 {
						t.Errorf("%s: word %d", x.body, i)
					}
				}
			}
			if s.finish(); len(s.allocated()) != 2 {
				t.Error(s.allocated())
			}
		}
	}
}

// allocated: the addresses whose bits are set in Alloc.
func (s *stand) allocated() (l []int64) {
	for page := range s.plan.Pages {
		w, _ := s.a.Peek(s.plan.Alloc(page))
		for at := range 64 {
			if w>>at&1 == 1 {
				l = append(l, int64(s.plan.Addr(page, at)))
			}
		}
	}
	return l
}
