package image_test

import (
	"math"
	"slices"
	"testing"

	"windrow/api"
	"windrow/classes"
	"windrow/image"
)

// list: the classes of the tests: one reference; references around a number; a number; nothing.
func list() []api.Class {
	field := func(name string, kind int) api.Field { return api.Field{Name: name, Type: kind} }
	return []api.Class{
		{Name: "node", Fields: []api.Field{field("next", api.Ref)}},
		{Name: "pair", Fields: []api.Field{field("a", api.Ref), field("n", api.Int), field("b", api.Ref)}},
		{Name: "leaf", Fields: []api.Field{field("n", api.Int)}},
		{Name: "empty"},
	}
}

// The numbers of the classes.
const (
	nodeClass  = 0
	pairClass  = 1
	leafClass  = 2
	emptyClass = 3
)

func table(t *testing.T) *classes.Table {
	t.Helper()
	made, _, e := classes.New(list())
	if e != api.OK {
		t.Fatal(e)
	}
	return made
}

func object(addr int64, class, kind int, words ...int64) api.Cell {
	return api.Cell{Addr: addr, Class: class, Kind: kind, Words: words}
}

func node(addr, next int64) api.Cell { return object(addr, nodeClass, api.Fields, next) }

func pair(addr, a, n, b int64) api.Cell { return object(addr, pairClass, api.Fields, a, n, b) }

func refs(addr int64, words ...int64) api.Cell { return object(addr, 0, api.Refs, words...) }

func ints(addr int64, words ...int64) api.Cell { return object(addr, 0, api.Ints, words...) }

func roots(l ...int64) []int64 { return l }

// sameCell: are two objects the same in everything?
func sameCell(a, b api.Cell) bool {
	return a.Addr == b.Addr && a.Class == b.Class && a.Kind == b.Kind && slices.Equal(a.Words, b.Words)
}

func sameImage(x, y image.Image) bool {
	return slices.Equal(x.Roots, y.Roots) && slices.EqualFunc(x.Cells, y.Cells, sameCell)
}

// listed: does a call answer these numbers?
func listed(t *testing.T, what string, got []int64, e api.Errno, want ...int64) {
	t.Helper()
	if !slices.Equal(got, want) || e != api.OK {
		t.Errorf("%s = %v, %d, not %v", what, got, e, want)
	}
}

// P16.1: the chapter's example.
func TestExample(t *testing.T) {
	made := table(t)
	x := image.Image{Roots: roots(5), Cells: []api.Cell{node(5, 7), node(7, 5), node(9, 5)}}
	if e := image.Check(made, x); e != api.OK {
		t.Error("Check", e)
	}
	l, e := image.Reach(made, x)
	listed(t, "Reach", l, e, 5, 7)
	l, e = image.Garbage(made, x)
	listed(t, "Garbage", l, e, 9)
	l, e = image.Rings(made, x)
	listed(t, "Rings", l, e, 5, 7)
	l, e = image.Holders(made, x, 5)
	listed(t, "Holders", l, e, 7, 9)
	c, e := image.Canon(made, x)
	if want := (image.Image{Roots: roots(1), Cells: []api.Cell{node(1, 2), node(2, 1)}}); !sameImage(c, want) || e != api.OK {
		t.Errorf("Canon = %+v, %d", c, e)
	}
}

// web: an image whose objects refer to one another in several ways, and twice to the same one.
func web() image.Image {
	return image.Image{Roots: roots(0, 40, 8, 40, 0), Cells: []api.Cell{
		refs(8, 30, 0, 9, 30, 8),
		ints(9, 8, 40, -1),
		pair(30, 50, 8, 0),
		pair(40, 9, 30, 50),
		node(50, 70),
		refs(60, 61, 8),
		node(61, 60),
		object(70, emptyClass, api.Fields),
		object(math.MaxInt64, leafClass, api.Fields, 70),
		refs(1),
	}}
}

// P16.1: each function on an image of all kinds of objects.
func TestWeb(t *testing.T) {
	made := table(t)
	x := web()
	want := []image.Step{{Addr: 40}, {Addr: 8}, {Addr: 9, Far: 1}, {Addr: 50, Far: 1}, {Addr: 30, Far: 1}, {Addr: 70, Far: 2}}
	if got := slices.Collect(image.Walk(made, x)); !slices.Equal(got, want) {
		t.Errorf("Walk = %v", got)
	}
	want = []image.Step{{Addr: 8}, {Addr: 9, Far: 1}, {Addr: 30, Far: 1}, {Addr: 40}, {Addr: 50, Far: 1}, {Addr: 70, Far: 2}}
	if got, e := image.Least(made, x); !slices.Equal(got, want) || e != api.OK {
		t.Errorf("Least = %v, %d", got, e)
	}
	l, e := image.Reach(made, x)
	listed(t, "Reach", l, e, 8, 9, 30, 40, 50, 70)
	l, e = image.Garbage(made, x)
	listed(t, "Garbage", l, e, 1, 60, 61, math.MaxInt64)
	l, e = image.Rings(made, x)
	listed(t, "Rings", l, e, 8, 60, 61)
	c, e := image.Canon(made, x)
	canon := image.Image{Roots: roots(0, 1, 2, 1, 0), Cells: []api.Cell{
		pair(1, 3, 30, 4),
		refs(2, 5, 0, 3, 5, 2),
		ints(3, 8, 40, -1),
		node(4, 6),
		pair(5, 4, 8, 0),
		object(6, emptyClass, api.Fields),
	}}
	if !sameImage(c, canon) || e != api.OK {
		t.Errorf("Canon = %+v, %d", c, e)
	}
	if !image.Same(made, x, canon) || !image.Same(made, canon, x) || !image.Same(made, x, x) {
		t.Error("Same: an image and its Canon differ")
	}
	for addr, want := range map[int64][]int64{8: {8, 60}, 9: {8, 40}, 30: {8}, 50: {30, 40}, 60: {61}, 70: {50}, 40: nil, 1: nil, 0: nil, -1: nil, 7: nil, math.MaxInt64: nil, math.MinInt64: nil} {
		l, e := image.Holders(made, x, addr)
		listed(t, "Holders", l, e, want...)
	}
}

// P16.1: nothing outside, nothing inside, roots that refer to nothing.
func TestEmpty(t *testing.T) {
	made := table(t)
	for _, x := range []image.Image{{}, {Roots: roots()}, {Roots: roots(0, 0)}, {Cells: []api.Cell{}}, {Cells: []api.Cell{node(3, 0)}}} {
		var all []int64
		for _, c := range x.Cells {
			all = append(all, c.Addr)
		}
		l, e := image.Reach(made, x)
		listed(t, "Reach", l, e)
		l, e = image.Garbage(made, x)
		listed(t, "Garbage", l, e, all...)
		l, e = image.Rings(made, x)
		listed(t, "Rings", l, e)
		l, e = image.Holders(made, x, 0)
		listed(t, "Holders", l, e)
		c, e := image.Canon(made, x)
		if !slices.Equal(c.Roots, x.Roots) || len(c.Cells) != 0 || e != api.OK {
			t.Errorf("Canon(%+v) = %+v, %d", x, c, e)
		}
		for range image.Walk(made, x) {
			t.Errorf("Walk(%+v) goes somewhere", x)
		}
	}
}

// errors holds all calls for an image that isn't valid against its error.
func errors(t *testing.T, made *classes.Table, x image.Image, want api.Errno) {
	t.Helper()
	if e := image.Check(made, x); e != want {
		t.Errorf("Check(%+v) = %d, not %d", x, e, want)
	}
	if l, e := image.Reach(made, x); l != nil || e != want {
		t.Errorf("Reach(%+v) = %v, %d", x, l, e)
	}
	if l, e := image.Garbage(made, x); l != nil || e != want {
		t.Errorf("Garbage(%+v) = %v, %d", x, l, e)
	}
	if l, e := image.Least(made, x); l != nil || e != want {
		t.Errorf("Least(%+v) = %v, %d", x, l, e)
	}
	if l, e := image.Rings(made, x); l != nil || e != want {
		t.Errorf("Rings(%+v) = %v, %d", x, l, e)
	}
	for _, c := range x.Cells {
		if l, e := image.Holders(made, x, c.Addr); l != nil || e != want {
			t.Errorf("Holders(%+v) = %v, %d", x, l, e)
		}
	}
	if c, e := image.Canon(made, x); c.Roots != nil || c.Cells != nil || e != want {
		t.Errorf("Canon(%+v) = %+v, %d", x, c, e)
	}
	if image.Same(made, x, x) || image.Same(made, x, image.Image{}) || image.Same(made, image.Image{}, x) {
		t.Errorf("Same(%+v)", x)
	}
	for s := range image.Walk(made, x) {
		t.Errorf("Walk(%+v): %v", x, s)
	}
}

// P16.1: each error, also of objects that can't be reached.
func TestErrors(t *testing.T) {
	made := table(t)
	long := make([]int64, 256)
	for _, x := range []struct {
		e     api.Errno
		roots []int64
		cells []api.Cell
	}{
		{api.ErrAddr, nil, []api.Cell{node(0, 0)}},
		{api.ErrAddr, nil, []api.Cell{node(-1, 0)}},
		{api.ErrAddr, roots(math.MinInt64), []api.Cell{node(math.MinInt64, 0)}},
		{api.ErrTwice, nil, []api.Cell{node(1, 0), node(1, 0)}},
		{api.ErrTwice, nil, []api.Cell{node(1, 0), ints(2), ints(1)}},
		{api.ErrForm, nil, []api.Cell{node(1, 0), {Addr: 2}}},
		{api.ErrForm, nil, []api.Cell{object(1, nodeClass, api.Fields)}},
		{api.ErrForm, nil, []api.Cell{object(1, nodeClass, api.Fields, 0, 0)}},
		{api.ErrForm, nil, []api.Cell{object(1, 4, api.Fields)}},
		{api.ErrForm, nil, []api.Cell{object(1, -1, api.Fields)}},
		{api.ErrForm, nil, []api.Cell{object(1, 1, api.Ints, 0)}},
		{api.ErrForm, nil, []api.Cell{object(1, 0, 4)}},
		{api.ErrForm, nil, []api.Cell{ints(1, long...)}},
		{api.ErrAddr, roots(1), nil},
		{api.ErrAddr, roots(0, 1, 2), []api.Cell{ints(1)}},
		{api.ErrAddr, roots(-1), []api.Cell{ints(1)}},
		{api.ErrAddr, nil, []api.Cell{node(1, 2)}},
		{api.ErrAddr, nil, []api.Cell{refs(1, 1, 0, 1, 3), ints(2)}},
		{api.ErrAddr, nil, []api.Cell{pair(1, 0, 0, -1)}},
		// The objects' errors come first, in their order.
		{api.ErrForm, nil, []api.Cell{object(1, 9, api.Fields), node(0, 0)}},
		{api.ErrAddr, nil, []api.Cell{node(0, 0), object(1, 9, api.Fields)}},
		{api.ErrAddr, nil, []api.Cell{object(0, 9, api.Fields)}},
		{api.ErrTwice, nil, []api.Cell{node(1, 0), object(1, 9, api.Fields)}},
		{api.ErrTwice, roots(7), []api.Cell{node(1, 8), node(1, 0), node(0, 0)}},
		{api.ErrForm, roots(7), []api.Cell{node(1, 8), object(2, 9, api.Fields), node(1, 0)}},
	} {
		errors(t, made, image.Image{Roots: x.roots, Cells: x.cells}, x.e)
	}
	fits := image.Image{Roots: roots(3), Cells: []api.Cell{ints(1, long[1:]...), refs(2, long[1:]...), pair(3, 3, 7, 3), object(4, leafClass, api.Fields, 5)}}
	if e := image.Check(made, fits); e != api.OK {
		t.Error("Check of the longest arrays", e)
	}
}

// P16.1: a table without classes, and none at all: only arrays fit.
func TestNoTable(t *testing.T) {
	x := image.Image{Roots: roots(4), Cells: []api.Cell{refs(4, 4, 0, 9), ints(9, 4), refs(2, 9)}}
	none, _, _ := classes.New(nil)
	for _, made := range []*classes.Table{nil, none} {
		l, e := image.Reach(made, x)
		listed(t, "Reach", l, e, 4, 9)
		l, e = image.Rings(made, x)
		listed(t, "Rings", l, e, 4)
		l, e = image.Holders(made, x, 9)
		listed(t, "Holders", l, e, 2, 4)
		if !image.Same(made, x, image.Image{Roots: roots(1), Cells: []api.Cell{ints(2, 4), refs(1, 1, 0, 2)}}) {
			t.Error("Same")
		}
		errors(t, made, image.Image{Cells: []api.Cell{object(1, 3, api.Fields)}}, api.ErrForm)
	}
}

// P16.2: what makes two images different, and what doesn't.
func TestSame(t *testing.T) {
	made := table(t)
	x := image.Image{Roots: roots(5, 0), Cells: []api.Cell{pair(5, 6, 1, 7), node(6, 0), node(7, 6)}}
	for _, y := range []image.Image{
		{Roots: roots(1, 0), Cells: []api.Cell{node(9, 8), node(8, 0), pair(1, 8, 1, 9)}},                      // other names, another order
		{Roots: roots(5, 0), Cells: []api.Cell{pair(5, 6, 1, 7), node(6, 0), node(7, 6), node(8, 5), ints(1)}}, // what can't be reached
		{Roots: roots(7, 0), Cells: []api.Cell{pair(7, 5, 1, 6), node(5, 0), node(6, 5)}},                      // the same names for others
	} {
		if !image.Same(made, x, y) || !image.Same(made, y, x) {
			t.Errorf("%+v differs", y)
		}
	}
	for _, y := range []image.Image{
		{Roots: roots(5), Cells: x.Cells},
		{Roots: roots(0, 5), Cells: x.Cells},
		{Roots: roots(5, 5), Cells: x.Cells},
		{Roots: roots(6, 0), Cells: x.Cells},
		{Roots: roots(5, 0), Cells: []api.Cell{pair(5, 6, 2, 7), node(6, 0), node(7, 6)}},
		{Roots: roots(5, 0), Cells: []api.Cell{pair(5, 7, 1, 6), node(6, 0), node(7, 6)}},
		{Roots: roots(5, 0), Cells: []api.Cell{pair(5, 6, 1, 6), node(6, 0), node(7, 6)}},
		{Roots: roots(5, 0), Cells: []api.Cell{pair(5, 6, 1, 7), node(6, 0), node(7, 7)}},
		{Roots: roots(5, 0), Cells: []api.Cell{pair(5, 6, 1, 7), node(6, 6), node(7, 6)}},
		{Roots: roots(5, 0), Cells: []api.Cell{pair(5, 6, 1, 7), refs(6, 0), node(7, 6)}},
		{Roots: roots(5, 0), Cells: []api.Cell{pair(5, 6, 1, 7), object(6, leafClass, api.Fields, 0), node(7, 6)}},
		{Roots: roots(5, 0), Cells: []api.Cell{pair(5, 6, 1, 7), refs(6, 0, 0), node(7, 6)}},
		{Roots: roots(5, 0), Cells: []api.Cell{pair(5, 6, 1, 7), node(6, 0), node(7, 6), node(8, 9)}}, // not valid
		{},
	} {
		if image.Same(made, x, y) || image.Same(made, y, x) {
			t.Errorf("%+v is the same", y)
		}
	}
	// Objects whose words are alike as numbers, but not as what they are.
	a := image.Image{Roots: roots(1), Cells: []api.Cell{ints(1, 0)}}
	b := image.Image{Roots: roots(1), Cells: []api.Cell{refs(1, 0)}}
	c := image.Image{Roots: roots(1), Cells: []api.Cell{object(1, leafClass, api.Fields, 0)}}
	if image.Same(made, a, b) || image.Same(made, a, c) || image.Same(made, b, c) {
		t.Error("objects of other kinds are the same")
	}
}

// P16.1: many objects one behind the other, in one ring, and all at once.
func TestManyObjects(t *testing.T) {
	made := table(t)
	const n = 150000
	var x, y image.Image
	x.Roots = roots(1)
	for i := range int64(n) {
		x.Cells = append(x.Cells, node(i+1, (i+1)%n+1))
		y.Roots = append(y.Roots, 2*n-2*i)
		y.Cells = append(y.Cells, node(2*i+2, 0))
	}
	far := 0
	for s := range image.Walk(made, x) {
		if s != (image.Step{Addr: int64(far) + 1, Far: far}) {
			t.Fatal(s)
		}
		far++
	}
	if l, e := image.Rings(made, x); len(l) != n || far != n || e != api.OK {
		t.Error("a long ring", far, len(l), e)
	}
	x.Cells[n-1].Words[0] = 0
	if l, e := image.Rings(made, x); len(l) != 0 || e != api.OK {
		t.Error("a long row", len(l), e)
	}
	if l, e := image.Reach(made, y); len(l) != n || l[0] != 2 || l[n-1] != 2*n || e != api.OK {
		t.Error("many roots", len(l), e)
	}
	c, e := image.Canon(made, y)
	if len(c.Cells) != n || c.Roots[n-1] != n || e != api.OK || image.Same(made, x, y) || !image.Same(made, y, c) {
		t.Error("Canon of many roots", len(c.Cells), e)
	}
	x.Roots = nil
	if l, e := image.Garbage(made, x); len(l) != n || e != api.OK {
		t.Error("Garbage", len(l), e)
	}
}
