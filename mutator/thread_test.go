package mutator_test

import (
	"math"
	"slices"
	"strconv"
	"testing"

	"windrow/api"
	"windrow/layout"
	"windrow/mutator"
)

const spawner = "class a\nfunc main\nlocals ref int\npoll\nnew a\nstore 0\npoll\nload 0\nconst 7\nspawn work\nstore 1\nload 1\nout\nload 1\njoin\nout\nreturn\nend\n" +
	"func work ref int -> int\npoll\nload 1\nreturn\nend"

// spawn: Count is loaded, then increased; the host is told; then the new thread's Ack and Status are stored, and the host is told again.
func TestSpawn(t *testing.T) {
	for n := range 3 {
		s := stood(t, planned(t, 1, 4, 1), n, spawner)
		made, _ := s.upTo("new")
		s.shake(8 + mutator.Arm)
		s.upTo("poll")
		var order []string
		s.h.begin = func(c int) {
			order = append(order, "begin")
			if s.peek(layout.Count) != uint64(n)+2 || s.peek(s.plan.Status(c)) != mutator.Absent {
				t.Error("Begin", s.peek(layout.Count))
			}
		}
		s.h.raise = func(c int) {
			order = append(order, "raise")
			if s.peek(s.plan.Ack(c)) != 8+mutator.Arm || s.peek(s.plan.Status(c)) != mutator.Runs {
				t.Error("Raise", s.peek(s.plan.Ack(c)))
			}
		}
		_, l := s.upTo("spawn")
		if got := s.last(l); got != (api.Access{Who: n, Kind: api.AccCas, At: layout.Count, Want: uint64(n) + 1, Put: uint64(n) + 2, Seen: uint64(n) + 1, Left: uint64(n) + 2}) {
			t.Errorf("%+v", got)
		}
		if s.top() != (api.Value{Type: api.Int, N: int64(n) + 1}) || !slices.Equal(order, []string{"begin"}) || len(s.h.begun) != 1 {
			t.Errorf("%+v, %v", s.top(), order)
		}
		b := s.h.begun[0]
		if b.n != n+1 || b.fn != 1 || b.by != s.m || !slices.Equal(b.args, []api.Value{{Type: api.Ref, N: made.Addr}, {Type: api.Int, N: 7}}) {
			t.Errorf("%+v", b)
		}
		if s.peek(s.plan.Ack(n+1)) != 0 || s.peek(s.plan.Status(n+1)) != 0 {
			t.Error("too early")
		}
		_, l = s.upTo("store")
		want := []api.Access{
			{Who: n, Kind: api.AccStore, At: s.plan.Ack(n + 1), Put: 8 + mutator.Arm, Left: 8 + mutator.Arm},
			{Who: n, Kind: api.AccStore, At: s.plan.Status(n + 1), Put: mutator.Runs, Left: mutator.Runs},
		}
		if !slices.Equal(l, want) || !slices.Equal(order, []string{"begin", "raise"}) || !slices.Equal(s.h.raised, []int{n + 1}) {
			t.Errorf("%+v, %v", l, order)
		}
	}
}

// Another thread may be faster: then spawn goes by the number that Count has by then.
func TestSpawnLater(t *testing.T) {
	for late := range 4 {
		s := stood(t, planned(t, 1, 6, 1), 0, spawner)
		s.upTo("new")
		s.upTo("const")
		for n := range late {
			// Count is loaded, and then another thread increases it.
			for len(s.log) == 0 || s.log[0].At != layout.Count || s.log[0].Kind != api.AccLoad {
				if turn := s.step(); turn.Done {
					t.Fatalf("%+v", turn)
				}
			}
			s.poke(layout.Count, uint64(n)+2)
			if turn := s.step(); turn.Done || len(s.h.begun) > 0 {
				t.Fatalf("%+v", turn)
			}
		}
		if event, _ := s.upTo("spawn"); event.Trap != 0 || s.top().N != int64(late)+1 || s.peek(layout.Count) != uint64(late)+2 || s.h.begun[0].n != late+1 {
			t.Errorf("%+v, %+v", event, s.h.begun)
		}
	}
}

// Where all threads of the plan are there, or Count says so, spawn is a trap with the load of Count.
func TestSpawnTooMany(t *testing.T) {
	for _, count := range []uint64{2, 3, 6, 1 << 40, math.MaxUint64} {
		s := stood(t, planned(t, 1, 2, 1), 0, spawner)
		s.upTo("const")
		s.poke(layout.Count, count)
		event, l := s.upTo("spawn")
		if event.Trap != api.TrapThreads || len(l) != 1 || l[0].Kind != api.AccLoad || len(s.h.begun) != 0 || s.peek(layout.Count) != count {
			t.Errorf("%+v, %+v", event, l)
		}
		s.finish()
	}
	// One that is faster may take the last number.
	s := stood(t, planned(t, 1, 2, 1), 0, spawner)
	s.upTo("const")
	s.step()
	s.poke(layout.Count, 2)
	if event, _ := s.upTo("spawn"); event.Trap != api.TrapThreads || len(s.h.begun) != 0 || s.peek(layout.Count) != 2 {
		t.Errorf("%+v", event)
	}
}

// joiner waits for the thread with a number.
func joiner(n int64) string {
	return "func main\npoll\nconst " + strconv.FormatInt(n, 10) + "\njoin\nout\nreturn\nend"
}

// A thread that is gone isn't waited for.
func TestJoinGone(t *testing.T) {
	s := stood(t, planned(t, 1, 3, 1), 0, joiner(2))
	s.poke(layout.Count, 3)
	s.poke(s.plan.Status(2), mutator.Gone)
	s.poke(s.plan.Result(2), math.MaxUint64-4)
	s.upTo("const")
	_, l := s.upTo("join")
	want := []api.Access{{Kind: api.AccLoad, At: layout.Count, Seen: 3, Left: 3}, {Kind: api.AccLoad, At: s.plan.Status(2), Seen: 4, Left: 4}, {Kind: api.AccLoad, At: s.plan.Result(2), Seen: math.MaxUint64 - 4, Left: math.MaxUint64 - 4}}
	if !slices.Equal(l, want) || s.top() != (api.Value{Type: api.Int, N: -5}) {
		t.Errorf("%+v, %+v", l, s.top())
	}
	if s.finish(); !slices.Equal(s.h.told, []int64{-5}) {
		t.Error(s.h.told)
	}
}

// For any other one it stores that it waits, and does nothing until that one is gone; the collector may serve it meanwhile.
func TestJoinWaits(t *testing.T) {
	for _, status := range []uint64{mutator.Absent, mutator.Runs, mutator.Parked, mutator.Served} {
		s := stood(t, planned(t, 1, 3, 1), 1, joiner(2))
		s.poke(layout.Count, 3)
		s.poke(s.plan.Status(2), status)
		s.upTo("const")
		for s.peek(s.plan.Status(1)) != mutator.Parked {
			if v := s.m.View(); v.Status != api.Running {
				t.Fatalf("%+v", v)
			}
			if turn := s.step(); !turn.Moved || turn.Done {
				t.Fatalf("%+v", turn)
			}
		}
		s.shake(8 + mutator.Arm)
		s.still()
		s.h.gone[1], s.h.gone[0] = true, true
		s.still()
		if v := s.m.View(); v.Status != api.Joining || s.peek(s.plan.Ack(1)) != 0 || s.m.Gone() {
			t.Errorf("%+v", v)
		}
		// The collector responds for it.
		s.poke(s.plan.Status(1), mutator.Served)
		s.still()
		s.m.Serve(8 + mutator.Arm)
		s.h.gone[2] = true
		s.poke(s.plan.Status(2), mutator.Gone)
		s.poke(s.plan.Result(2), 12)
		for range 5 {
			turn := s.step()
			if !turn.Moved || turn.Done || s.peek(s.plan.Status(1)) != mutator.Served || s.m.View().Status != api.Joining {
				t.Fatalf("%+v", turn)
			}
			if len(s.log) != 1 || s.log[0] != (api.Access{Who: 1, Kind: api.AccCas, At: s.plan.Status(1), Want: 2, Put: 1, Seen: 3, Left: 3}) {
				t.Fatalf("%+v", s.log)
			}
		}
		s.poke(s.plan.Status(1), mutator.Parked)
		_, l := s.upTo("join")
		want := []api.Access{{Who: 1, Kind: api.AccCas, At: s.plan.Status(1), Want: 2, Put: 1, Seen: 2, Left: 1}, {Who: 1, Kind: api.AccLoad, At: s.plan.Result(2), Seen: 12, Left: 12}}
		if !slices.Equal(l, want) || s.top().N != 12 || s.m.View().Status != api.Running || !s.m.Barrier() || s.m.Seen() != 8+mutator.Arm {
			t.Errorf("%+v, %+v", l, s.top())
		}
		s.finish()
	}
}

// There is no such thread: a trap, with the load of Count.
func TestJoinNobody(t *testing.T) {
	for _, x := range []struct {
		n     int64
		count uint64
		trap  int
	}{
		{-1, 1, api.TrapJoin}, {1, 1, api.TrapJoin}, {2, 2, api.TrapJoin}, {math.MinInt64, 3, api.TrapJoin}, {math.MaxInt64, 3, api.TrapJoin},
		{1 << 32, 3, api.TrapJoin}, {-1, math.MaxUint64, api.TrapJoin}, {3, math.MaxUint64, api.TrapJoin}, {1 << 33, math.MaxUint64, api.TrapJoin}, {0, 0, api.TrapJoin},
		{2, 3, 0}, {1, 2, 0},
	} {
		s := stood(t, planned(t, 1, 3, 1), 0, joiner(x.n))
		s.poke(layout.Count, x.count)
		s.poke(s.plan.Status(1), mutator.Gone)
		s.poke(s.plan.Status(2), mutator.Gone)
		s.upTo("const")
		event, l := s.upTo("join")
		if event.Trap != x.trap || x.trap != 0 && (len(l) != 1 || l[0].At != layout.Count) {
			t.Errorf("%+v: %+v, %+v", x, event, l)
		}
		s.finish()
	}
}

// A thread that waits for itself waits forever.
func TestJoinItself(t *testing.T) {
	s := stood(t, planned(t, 1, 3, 1), 1, joiner(1))
	s.upTo("const")
	for s.m.View().Status != api.Joining {
		if turn := s.step(); !turn.Moved {
			t.Fatalf("%+v", turn)
		}
	}
	s.still()
	if s.h.asked == 0 || s.peek(s.plan.Status(1)) != mutator.Parked {
		t.Error(s.h.asked)
	}
}
