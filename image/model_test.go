package image_test

import (
	"maps"
	"math"
	"slices"
	"testing"

	"windrow/api"
	"windrow/classes"
	"windrow/image"
)

// seed tells numbers without a pattern, the same ones in each run.
type seed uint64

func (s *seed) next() uint64 {
	x := uint64(*s)
	x ^= x << 13
	x ^= x >> 7
	x ^= x << 17
	*s = seed(x)
	return x >> 8
}

func (s *seed) below(n int) int { return int(s.next() % uint64(n)) }

// rarely: once in so many times; never for 0.
func (s *seed) rarely(n int) bool { return n > 0 && s.below(n) == 0 }

// ref: a reference to one of these, or to nothing; rarely to something that isn't there.
func (s *seed) ref(names []int64, wrongs int) int64 {
	if s.rarely(wrongs) {
		return int64(s.below(40)) - 3
	}
	if i := s.below(len(names) + 1); i < len(names) {
		return names[i]
	}
	return 0
}

// names: of so many objects, all different unless something rarely goes wrong.
func (s *seed) names(n, wrongs int) []int64 {
	var l []int64
	for len(l) < n {
		name := 1 + int64(s.below(30))
		if s.below(8) == 0 {
			name += math.MaxInt64 - 30
		}
		if s.rarely(wrongs) {
			name = -int64(s.below(2))
		}
		twice := len(l) > 0 && s.rarely(wrongs)
		if twice {
			name = l[s.below(len(l))]
		}
		if twice || !slices.Contains(l, name) {
			l = append(l, name)
		}
	}
	return l
}

// image: of so many objects at most; each thing is wrong once in so many times.
func (s *seed) image(most, wrongs int) image.Image {
	names := s.names(s.below(most+1), wrongs)
	var x image.Image
	for range s.below(4) {
		x.Roots = append(x.Roots, s.ref(names, wrongs))
	}
	for _, name := range names {
		c := api.Cell{Addr: name, Kind: 1 + s.below(3)}
		n := s.below(4)
		if c.Kind == api.Fields {
			c.Class = s.below(4)
			n = len(list()[c.Class].Fields)
		}
		if s.rarely(wrongs) {
			n = s.below(4)
		}
		if s.rarely(wrongs) {
			c.Class = s.below(6) - 1
		}
		if s.rarely(wrongs) {
			c.Kind = s.below(5)
		}
		for range n {
			c.Words = append(c.Words, s.ref(names, 0))
		}
		for i := range c.Words {
			if isRef(c, i) {
				c.Words[i] = s.ref(names, wrongs)
			} else if s.below(2) == 0 {
				c.Words[i] = int64(s.below(40)) - 3
			}
		}
		x.Cells = append(x.Cells, c)
	}
	return x
}

// fits: may an object be so, by the tests' classes?
func fits(c api.Cell) bool {
	switch c.Kind {
	case api.Fields:
		return c.Class >= 0 && c.Class < 4 && len(c.Words) == []int{1, 3, 1, 0}[c.Class]
	case api.Ints, api.Refs:
		return c.Class == 0 && len(c.Words) <= 255
	}
	return false
}

// isRef: is this word a reference?
func isRef(c api.Cell, i int) bool {
	return c.Kind == api.Refs || c.Kind == api.Fields && (c.Class == nodeClass || c.Class == pairClass && i != 1)
}

// check: as the chapter says it.
func check(x image.Image) api.Errno {
	for i, c := range x.Cells {
		if c.Addr < 1 {
			return api.ErrAddr
		}
		for _, other := range x.Cells[:i] {
			if other.Addr == c.Addr {
				return api.ErrTwice
			}
		}
		if !fits(c) {
			return api.ErrForm
		}
	}
	all := slices.Clone(x.Roots)
	for _, c := range x.Cells {
		all = append(all, referred(c)...)
	}
	for _, ref := range all {
		if ref != 0 && !slices.ContainsFunc(x.Cells, func(c api.Cell) bool { return c.Addr == ref }) {
			return api.ErrAddr
		}
	}
	return api.OK
}

// referred: what an object refers to, in the order of its words.
func referred(c api.Cell) []int64 {
	var l []int64
	for i, w := range c.Words {
		if isRef(c, i) && w != 0 {
			l = append(l, w)
		}
	}
	return l
}

// cell: the object of a name, in a valid image.
func cell(x image.Image, addr int64) api.Cell {
	return x.Cells[slices.IndexFunc(x.Cells, func(c api.Cell) bool { return c.Addr == addr })]
}

// walk: the objects at each distance, in the order in which they are referred to.
func walk(x image.Image) []image.Step {
	var steps []image.Step
	next := x.Roots
	for far := 0; len(next) > 0; far++ {
		var behind []int64
		for _, ref := range next {
			if ref != 0 && !slices.ContainsFunc(steps, func(s image.Step) bool { return s.Addr == ref }) {
				steps = append(steps, image.Step{Addr: ref, Far: far})
				behind = append(behind, referred(cell(x, ref))...)
			}
		}
		next = behind
	}
	return steps
}

// reaches: for each two objects, whether a way of one or more references leads from the first to the second.
func reaches(x image.Image) map[[2]int64]bool {
	ways := map[[2]int64]bool{}
	for _, c := range x.Cells {
		for _, ref := range referred(c) {
			ways[[2]int64{c.Addr, ref}] = true
		}
	}
	for _, over := range x.Cells {
		for _, a := range x.Cells {
			for _, b := range x.Cells {
				if ways[[2]int64{a.Addr, over.Addr}] && ways[[2]int64{over.Addr, b.Addr}] {
					ways[[2]int64{a.Addr, b.Addr}] = true
				}
			}
		}
	}
	return ways
}

// some: the names of the objects of which that holds, rising.
func some(x image.Image, holds func(c api.Cell) bool) []int64 {
	var l []int64
	for _, c := range x.Cells {
		if holds(c) {
			l = append(l, c.Addr)
		}
	}
	slices.Sort(l)
	return l
}

// hold holds all functions on a valid image against the chapter's words.
func hold(t *testing.T, made *classes.Table, x image.Image) {
	t.Helper()
	steps, ways := walk(x), reaches(x)
	if got := slices.Collect(image.Walk(made, x)); !slices.Equal(got, steps) {
		t.Fatalf("Walk(%+v) = %v, not %v", x, got, steps)
	}
	reached := func(c api.Cell) bool {
		return slices.ContainsFunc(x.Roots, func(root int64) bool { return root == c.Addr || ways[[2]int64{root, c.Addr}] })
	}
	l, e := image.Reach(made, x)
	listed(t, "Reach", l, e, some(x, reached)...)
	l, e = image.Garbage(made, x)
	listed(t, "Garbage", l, e, some(x, func(c api.Cell) bool { return !reached(c) })...)
	l, e = image.Rings(made, x)
	listed(t, "Rings", l, e, some(x, func(c api.Cell) bool { return ways[[2]int64{c.Addr, c.Addr}] })...)
	for addr := range int64(33) {
		l, e = image.Holders(made, x, addr)
		listed(t, "Holders", l, e, some(x, func(c api.Cell) bool { return slices.Contains(referred(c), addr) })...)
	}
	least, e := image.Least(made, x)
	sorted := slices.SortedFunc(slices.Values(steps), func(a, b image.Step) int {
		if a.Addr < b.Addr {
			return -1
		}
		return 1
	})
	if !slices.Equal(least, sorted) || e != api.OK {
		t.Fatalf("Least(%+v) = %v, %d", x, least, e)
	}
	holdCanon(t, made, x, steps)
	if t.Failed() {
		t.Fatalf("%+v", x)
	}
}

// holdCanon holds Canon against the walk.
func holdCanon(t *testing.T, made *classes.Table, x image.Image, steps []image.Step) {
	t.Helper()
	name := func(addr int64) int64 {
		return 1 + int64(slices.IndexFunc(steps, func(s image.Step) bool { return s.Addr == addr }))
	}
	var want image.Image
	for _, root := range x.Roots {
		want.Roots = append(want.Roots, name(root)) // nothing has no step: 0
	}
	for i, s := range steps {
		c := cell(x, s.Addr)
		c.Addr, c.Words = int64(i+1), slices.Clone(c.Words)
		for at := range c.Words {
			if isRef(c, at) {
				c.Words[at] = name(c.Words[at])
			}
		}
		want.Cells = append(want.Cells, c)
	}
	got, e := image.Canon(made, x)
	if !sameImage(got, want) || e != api.OK {
		t.Fatalf("Canon(%+v) = %+v, %d, not %+v", x, got, e, want)
	}
	again, e := image.Canon(made, got)
	if !sameImage(again, got) || e != api.OK || !image.Same(made, x, got) {
		t.Fatalf("Canon of the Canon of %+v = %+v, %d", x, again, e)
	}
}

// P16.1: images without a pattern, valid ones and others.
func TestManyImages(t *testing.T) {
	made := table(t)
	s := seed(16)
	counts := map[api.Errno]int{}
	for n := range 30000 {
		wrongs := []int{0, 0, 200, 40}[n%4]
		x := s.image(8, wrongs)
		want := check(x)
		counts[want]++
		if want == api.OK {
			hold(t, made, x)
		} else {
			errors(t, made, x, want)
		}
		if t.Failed() {
			t.Fatalf("%+v", x)
		}
	}
	for _, e := range []api.Errno{api.OK, api.ErrAddr, api.ErrTwice, api.ErrForm} {
		if counts[e] < 400 {
			t.Errorf("%d was hardly tried: %d times", e, counts[e])
		}
	}
}

// renaming: is there one that turns what can be reached of x into that of y? All are tried.
func renaming(x, y image.Image) bool {
	from, to := walk(x), walk(y)
	if len(from) != len(to) || len(x.Roots) != len(y.Roots) {
		return false
	}
	names := map[int64]int64{0: 0}
	var try func(i int) bool
	try = func(i int) bool {
		if i == len(from) {
			return turns(x, y, names)
		}
		for _, s := range to {
			if slices.Contains(slices.Collect(maps.Values(names)), s.Addr) {
				continue
			}
			names[from[i].Addr] = s.Addr
			if try(i + 1) {
				return true
			}
			delete(names, from[i].Addr)
		}
		return false
	}
	return try(0)
}

// turns: do these names turn what can be reached of x into that of y?
func turns(x, y image.Image, names map[int64]int64) bool {
	for i, root := range x.Roots {
		if names[root] != y.Roots[i] {
			return false
		}
	}
	for from, to := range names {
		if from == 0 {
			continue
		}
		a, b := cell(x, from), cell(y, to)
		if a.Class != b.Class || a.Kind != b.Kind || len(a.Words) != len(b.Words) {
			return false
		}
		for i, w := range a.Words {
			if isRef(a, i) {
				w = names[w]
			}
			if w != b.Words[i] {
				return false
			}
		}
	}
	return true
}

// disguised: the image with other names, its objects in another order, and some that can't be reached in place of those there were.
func (s *seed) disguised(x image.Image) image.Image {
	steps := walk(x)
	names := s.names(len(steps)+s.below(3), 0)
	name := func(addr int64) int64 {
		if addr == 0 {
			return 0
		}
		return names[slices.IndexFunc(steps, func(s image.Step) bool { return s.Addr == addr })]
	}
	var y image.Image
	for _, root := range x.Roots {
		y.Roots = append(y.Roots, name(root))
	}
	for i, addr := range names {
		c := refs(addr, s.ref(names, 0), s.ref(names, 0))
		if i < len(steps) {
			c = cell(x, steps[i].Addr)
			c.Addr, c.Words = addr, slices.Clone(c.Words)
			for at := range c.Words {
				if isRef(c, at) {
					c.Words[at] = name(c.Words[at])
				}
			}
		}
		y.Cells = slices.Insert(y.Cells, s.below(len(y.Cells)+1), c)
	}
	return y
}

// P16.2: Same exactly if there is a renaming.
func TestRenamings(t *testing.T) {
	made := table(t)
	s := seed(162)
	counts := map[bool]int{}
	for range 30000 {
		x := s.image(4, 0)
		y := s.disguised(x)
		if !image.Same(made, x, y) || !image.Same(made, y, x) {
			t.Fatalf("%+v and %+v differ", x, y)
		}
		// One thing is changed.
		if len(y.Cells) > 0 {
			c := &y.Cells[s.below(len(y.Cells))]
			if len(c.Words) > 0 {
				at := s.below(len(c.Words))
				c.Words[at] = s.ref(some(y, func(api.Cell) bool { return true }), 0)
			}
		}
		if len(y.Roots) > 0 && s.below(2) == 0 {
			y.Roots[s.below(len(y.Roots))] = s.ref(some(y, func(api.Cell) bool { return true }), 0)
		}
		want := renaming(x, y)
		if image.Same(made, x, y) != want || image.Same(made, y, x) != want {
			t.Fatalf("Same(%+v, %+v) isn't %v", x, y, want)
		}
		counts[want]++
	}
	if counts[true] < 3000 || counts[false] < 3000 {
		t.Errorf("hardly tried: %v", counts)
	}
}
