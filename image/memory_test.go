package image_test

import (
	"slices"
	"testing"

	"windrow/api"
	"windrow/classes"
	"windrow/image"
)

// roomy: the list with spare capacity, whose places hold a number.
func roomy(l []int64) []int64 {
	l = append(slices.Clone(l), 77, 77, 77)
	return l[:len(l)-3]
}

// untouched: does the spare capacity hold what it held?
func untouched(l []int64) bool {
	return slices.Equal(l[len(l):cap(l)][:3], []int64{77, 77, 77})
}

// wide: the web, all of whose lists have spare capacity.
func wide() image.Image {
	x := web()
	x.Roots = roomy(x.Roots)
	for i := range x.Cells {
		x.Cells[i].Words = roomy(x.Cells[i].Words)
	}
	x.Cells = append(x.Cells, object(77, 77, 77))
	x.Cells = x.Cells[:len(x.Cells)-1]
	return x
}

// call makes all calls on an image; their lists of numbers and of objects.
func call(made *classes.Table, x image.Image) ([][]int64, [][]api.Cell, []image.Step) {
	image.Check(made, x)
	steps := slices.Collect(image.Walk(made, x))
	reach, _ := image.Reach(made, x)
	garbage, _ := image.Garbage(made, x)
	least, _ := image.Least(made, x)
	canon, _ := image.Canon(made, x)
	image.Same(made, x, x)
	holders, _ := image.Holders(made, x, 8)
	rings, _ := image.Rings(made, x)
	image.Apart(x.Cells)
	l := [][]int64{reach, garbage, canon.Roots, holders, rings}
	for _, c := range canon.Cells {
		l = append(l, c.Words)
	}
	return l, [][]api.Cell{canon.Cells}, append(least, steps...)
}

// P16.3: arguments stay as they are, also in their spare capacity.
func TestArgumentsStay(t *testing.T) {
	made := table(t)
	x := wide()
	call(made, x)
	if !sameImage(x, web()) {
		t.Errorf("the arguments are now %+v", x)
	}
	kept := untouched(x.Roots) && sameCell(x.Cells[:len(x.Cells)+1][len(x.Cells)], object(77, 77, 77))
	for _, c := range x.Cells {
		kept = kept && untouched(c.Words)
	}
	if !kept {
		t.Error("the spare capacity was used")
	}
}

// P16.3: results share no memory, neither with the arguments nor with one another.
func TestResultsApart(t *testing.T) {
	made := table(t)
	x := wide()
	want, _, steps := call(made, x)
	for i := range want {
		want[i] = slices.Clone(want[i])
	}
	got, cells, _ := call(made, x)
	for i, l := range got {
		l = l[:cap(l)]
		for at := range l {
			l[at] = -9
		}
		for other := i + 1; other < len(got); other++ {
			if !slices.Equal(got[other], want[other]) {
				t.Fatalf("list %d shares memory with list %d", i, other)
			}
		}
	}
	for _, l := range cells {
		clear(l[:cap(l)])
	}
	if !sameImage(x, web()) {
		t.Errorf("a result shares memory with the arguments: %+v", x)
	}
	again, _, stepsAgain := call(made, x)
	if !slices.EqualFunc(again, want, slices.Equal[[]int64]) || !slices.Equal(steps, stepsAgain) {
		t.Error("a result shares memory with what is kept")
	}
}

// Rules 4, 8 and P16.3: a walk goes through what there was when it was asked for, can be stopped anywhere and used again.
func TestWalkAgain(t *testing.T) {
	made := table(t)
	x := wide()
	want := slices.Collect(image.Walk(made, x))
	steps := image.Walk(made, x)
	if steps == nil || image.Walk(nil, x) == nil {
		t.Fatal("Walk = nil")
	}
	for stop := range len(want) + 1 {
		var got []image.Step
		for s := range steps {
			if len(got) == stop {
				break
			}
			got = append(got, s)
		}
		if !slices.Equal(got, want[:stop]) {
			t.Errorf("stopped behind %d: %v", stop, got)
		}
	}
	clear(x.Roots)
	for _, c := range x.Cells {
		clear(c.Words)
	}
	clear(x.Cells)
	for range 2 {
		if got := slices.Collect(steps); !slices.Equal(got, want) {
			t.Errorf("behind a change of the arguments: %v", got)
		}
	}
	var both []image.Step
	for a := range steps {
		for b := range steps {
			if a == b {
				both = append(both, a)
			}
		}
	}
	if !slices.Equal(both, want) {
		t.Errorf("two at once: %v", both)
	}
}
