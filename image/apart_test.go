package image_test

import (
	"math"
	"math/big"
	"slices"
	"testing"

	"windrow/api"
	"windrow/image"
)

// span: how many words are taken for an object, by chapters 2 and 5; 0: its header isn't valid.
func span(c api.Cell) int64 {
	words := 1 + len(c.Words)
	switch {
	case c.Kind == api.Fields && (c.Class < 0 || c.Class > 15 || words > 16),
		c.Kind != api.Fields && (c.Class != 0 || words > 256),
		c.Kind < 1 || c.Kind > 3:
		return 0
	}
	for _, width := range []int{2, 3, 4, 6, 8, 12, 16, 32} {
		if words <= width {
			return int64(width)
		}
	}
	return int64((words + 63) / 64 * 64)
}

// apart: as the chapter says it.
func apart(cells []api.Cell) bool {
	var l []api.Cell
	for _, c := range cells {
		at := len(l)
		for at > 0 && l[at-1].Addr > c.Addr {
			at--
		}
		l = slices.Insert(l, at, c)
	}
	for i := 1; i < len(l); i++ {
		all := new(big.Int).Lsh(big.NewInt(1), 64)
		d := new(big.Int).Sub(big.NewInt(l[i].Addr), big.NewInt(l[i-1].Addr))
		if d.Cmp(big.NewInt(math.MaxInt64)) > 0 {
			d.Sub(d, all)
		}
		if d.Cmp(big.NewInt(span(l[i-1]))) < 0 {
			return false
		}
	}
	return true
}

// P16.1: Apart of two objects of all lengths, as near as they may be, and nearer.
func TestApart(t *testing.T) {
	if !image.Apart(nil) || !image.Apart([]api.Cell{}) || !image.Apart([]api.Cell{ints(-9, 1)}) || !image.Apart([]api.Cell{{}}) {
		t.Error("fewer than two")
	}
	for n := range 258 {
		for _, c := range []api.Cell{ints(100, make([]int64, n)...), refs(100, make([]int64, n)...), object(100, 7, api.Fields, make([]int64, n)...), object(100, 1, api.Ints, make([]int64, n)...), object(100, 0, 0, make([]int64, n)...)} {
			taken := span(c)
			for _, at := range []int64{100, 99 + taken, 100 + taken, 101 + taken, 101, 90, 98} {
				other := ints(at, 5)
				want := at >= 100+taken || at < 99
				if at < 100 && at > 98 {
					want = false
				}
				if at == 100 && taken == 0 {
					want = true
				}
				if got := image.Apart([]api.Cell{c, other}); got != want || got != apart([]api.Cell{c, other}) {
					t.Fatalf("Apart of %d words of kind %d, class %d at 100 and an object at %d = %v", n, c.Kind, c.Class, at, got)
				}
			}
		}
	}
}

// P16.1: addresses so far from one another that the difference is below 0, and such that are below 0.
func TestApartEdges(t *testing.T) {
	none := func(addr int64) api.Cell { return api.Cell{Addr: addr} }
	for _, x := range []struct {
		a, b int64
		want bool
	}{
		{math.MinInt64, math.MaxInt64, false},
		{math.MinInt64, 0, false},
		{math.MinInt64, -1, true},
		{-1, math.MaxInt64, false},
		{0, math.MaxInt64, true},
		{-2, math.MaxInt64, false},
		{-5, -3, true},
		{math.MinInt64, math.MinInt64, true},
	} {
		if image.Apart([]api.Cell{none(x.a), none(x.b)}) != x.want || image.Apart([]api.Cell{none(x.b), none(x.a)}) != x.want {
			t.Errorf("Apart of %d and %d", x.a, x.b)
		}
	}
	if image.Apart([]api.Cell{ints(-5), ints(-4)}) || !image.Apart([]api.Cell{ints(-5), ints(-3)}) {
		t.Error("addresses below 0")
	}
}

// P16.1: objects at one address stay in their order, also among many; the arguments stay as they are.
func TestApartOrder(t *testing.T) {
	var l []api.Cell
	for i := range int64(400) {
		l = append(l, api.Cell{Addr: 100 - i/8})
	}
	l[7] = ints(100, 9)
	kept := slices.Clone(l)
	if !image.Apart(l) {
		t.Error("the last one at the highest address has nobody behind it")
	}
	l[7], l[6] = l[6], l[7]
	if image.Apart(l) {
		t.Error("the last one but one has somebody behind it")
	}
	l[7], l[6] = l[6], l[7]
	if !slices.EqualFunc(l, kept, sameCell) {
		t.Error("Apart sorts the caller's list")
	}
}

// P16.1: Apart of objects without a pattern.
func TestApartMany(t *testing.T) {
	s := seed(169)
	counts := map[bool]int{}
	for range 20000 {
		var l []api.Cell
		at := int64(s.below(9) - 4)
		for range s.below(6) {
			c := object(at, s.below(2), s.below(4), make([]int64, s.below(40))...)
			at += span(c) + int64(s.below(12)) - 1
			l = slices.Insert(l, s.below(len(l)+1), c)
		}
		got := image.Apart(l)
		if got != apart(l) {
			t.Fatalf("Apart(%+v) = %v", l, got)
		}
		counts[got]++
	}
	if counts[true] < 1000 || counts[false] < 1000 {
		t.Errorf("hardly tried: %v", counts)
	}
}
