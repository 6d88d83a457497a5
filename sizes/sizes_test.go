package sizes_test

import (
	"math"
	"testing"

	"windrow/api"
	"windrow/sizes"
)

// widths: the words of the cells of each class, as the chapter lists them.
func widths() []int { return []int{2, 3, 4, 6, 8, 12, 16, 32} }

// page is, for each word of a page, the word at which its cell begins, or -1: what the functions are held against.
type page [64]int

// laid lays cells of a class into a page, one after the other, as long as a whole one fits.
func laid(class int) page {
	var p page
	for i := range p {
		p[i] = -1
	}
	width := widths()[class]
	for begin := 0; ; begin += width {
		if begin+width > len(p) {
			return p
		}
		for i := begin; i < begin+width; i++ {
			p[i] = begin
		}
	}
}

// begins: the words at which cells begin, rising.
func (p page) begins() []int {
	var l []int
	for i, begin := range p {
		if begin == i {
			l = append(l, i)
		}
	}
	return l
}

// starts: the same words as bits.
func (p page) starts() uint64 {
	var w uint64
	for _, begin := range p.begins() {
		w += uint64(1) << begin
	}
	return w
}

// free: the words at which cells begin whose bit isn't set in alloc, rising.
func (p page) free(alloc uint64) []int {
	var l []int
	for _, begin := range p.begins() {
		if alloc>>begin%2 == 0 {
			l = append(l, begin)
		}
	}
	return l
}

// numbers: all that could be words, classes or pages, what lies beside, and the ends of int.
func numbers() []int {
	l := []int{
		math.MinInt, math.MinInt + 1, math.MinInt + 64, -1 << 32, -1<<32 + 1, 511, 512, 513, 1 << 16,
		1 << 32, 1<<32 + 1, 1<<32 + 7, math.MaxInt - 64, math.MaxInt - 63, math.MaxInt - 1, math.MaxInt,
	}
	for n := -70; n <= 330; n++ {
		l = append(l, n)
	}
	return l
}

// noClasses: numbers of no class.
func noClasses() []int {
	return []int{math.MinInt, math.MinInt + 1, -1 << 32, -8, -2, -1, 8, 9, 15, 16, 64, 1 << 32, 1<<32 + 1, math.MaxInt - 1, math.MaxInt}
}

// allocs: nothing, everything, each bit alone and all but it, the bits of each class, and words without a pattern.
func allocs() []uint64 {
	l := []uint64{0, math.MaxUint64, 0xAAAAAAAAAAAAAAAA, 0x5555555555555555}
	for i := range 64 {
		l = append(l, 1<<i, ^uint64(1<<i), 1<<i-1)
	}
	for class := range widths() {
		starts := laid(class).starts()
		l = append(l, starts, ^starts, starts&(starts-1), starts<<1, starts|starts<<1)
	}
	x := uint64(0x9E3779B97F4A7C15)
	for range 60 {
		x ^= x << 13
		x ^= x >> 7
		x ^= x << 17
		l = append(l, x)
		for class := range widths() {
			l = append(l, x&laid(class).starts())
		}
	}
	return l
}

func TestExamples(t *testing.T) {
	if n, e := sizes.Class(5); n != 3 || e != api.OK {
		t.Error("Class(5)", n, e)
	}
	if n, e := sizes.Cells(1); n != 21 || e != api.OK {
		t.Error("Cells(1)", n, e)
	}
	if sizes.Cell(1, 62) != 60 || sizes.Cell(1, 63) != -1 {
		t.Error("Cell", sizes.Cell(1, 62), sizes.Cell(1, 63))
	}
	if w, e := sizes.Starts(7); w != 1<<32+1 || e != api.OK {
		t.Error("Starts(7)", w, e)
	}
	if sizes.First(7, 1, 0) != 32 {
		t.Error("First", sizes.First(7, 1, 0))
	}
	if n, e := sizes.Pages(33); n != 1 || e != api.OK {
		t.Error("Pages(33)", n, e)
	}
	if n, e := sizes.Pages(129); n != 3 || e != api.OK {
		t.Error("Pages(129)", n, e)
	}
	if n, e := sizes.Rounds(33); n != 64 || e != api.OK {
		t.Error("Rounds(33)", n, e)
	}
	if n, e := sizes.Fills(3, 2); n != 42 || e != api.OK {
		t.Error("Fills(3, 2)", n, e)
	}
	if sizes.Classes != 8 {
		t.Error(sizes.Classes)
	}
}

// P5.1: the classes, by what the chapter's list gives for each.
func TestClasses(t *testing.T) {
	counts := []int{32, 21, 16, 10, 8, 5, 4, 2}
	for class, width := range widths() {
		if n, e := sizes.Words(class); n != width || e != api.OK {
			t.Errorf("Words(%d) = %d, %d", class, n, e)
		}
		if n, e := sizes.Cells(class); n != counts[class] || n != len(laid(class).begins()) || e != api.OK {
			t.Errorf("Cells(%d) = %d, %d", class, n, e)
		}
		if w, e := sizes.Starts(class); w != laid(class).starts() || e != api.OK {
			t.Errorf("Starts(%d) = %x, %d", class, w, e)
		}
	}
}

// P5.1 and Rule 2: of no class, there is nothing.
func TestNoClass(t *testing.T) {
	for _, class := range noClasses() {
		if n, e := sizes.Words(class); n != 0 || e != api.ErrArg {
			t.Errorf("Words(%d) = %d, %d", class, n, e)
		}
		if n, e := sizes.Cells(class); n != 0 || e != api.ErrArg {
			t.Errorf("Cells(%d) = %d, %d", class, n, e)
		}
		if w, e := sizes.Starts(class); w != 0 || e != api.ErrArg {
			t.Errorf("Starts(%d) = %x, %d", class, w, e)
		}
		for _, n := range numbers() {
			if at := sizes.Cell(class, n); at != -1 {
				t.Errorf("Cell(%d, %d) = %d", class, n, at)
			}
			if at := sizes.First(class, 0, n); at != -1 {
				t.Errorf("First(%d, 0, %d) = %d", class, n, at)
			}
		}
		for _, alloc := range allocs() {
			if sizes.Valid(class, alloc) || sizes.Room(class, alloc) != 0 {
				t.Errorf("class %d, %x: %v, %d", class, alloc, sizes.Valid(class, alloc), sizes.Room(class, alloc))
			}
		}
	}
}

// P5.1: Class goes by the list of the chapter, written out here for all small objects.
func TestClass(t *testing.T) {
	edges := []struct{ from, to, class int }{
		{1, 2, 0}, {3, 3, 1}, {4, 4, 2}, {5, 6, 3}, {7, 8, 4}, {9, 12, 5}, {13, 16, 6}, {17, 32, 7},
	}
	next := 1
	for _, edge := range edges {
		if edge.from != next {
			t.Fatal("the table leaves out", next)
		}
		for words := edge.from; words <= edge.to; words++ {
			if class, e := sizes.Class(words); class != edge.class || e != api.OK {
				t.Errorf("Class(%d) = %d, %d", words, class, e)
			}
		}
		next = edge.to + 1
	}
	for _, words := range numbers() {
		class, e := sizes.Class(words)
		if words < 1 && (class != 0 || e != api.ErrArg) || words > 32 && (class != 0 || e != api.ErrBig) {
			t.Errorf("Class(%d) = %d, %d", words, class, e)
		}
	}
}

// P5.3.
func TestTheNextSmallerClassIsTooSmall(t *testing.T) {
	for words := 1; words <= api.SmallWords; words++ {
		class, e := sizes.Class(words)
		if e != api.OK {
			t.Fatal(words, e)
		}
		if width, e := sizes.Words(class); e != api.OK || width < words {
			t.Errorf("%d words in a cell of %d", words, width)
		}
		if class == 0 {
			continue
		}
		if width, e := sizes.Words(class - 1); e != api.OK || width >= words {
			t.Errorf("%d words would have a place in a cell of %d", words, width)
		}
	}
}

// P5.1: Cell, for all words and what lies beside.
func TestCell(t *testing.T) {
	for class := range widths() {
		p := laid(class)
		for _, at := range numbers() {
			want := -1
			if at >= 0 && at < len(p) {
				want = p[at]
			}
			if got := sizes.Cell(class, at); got != want {
				t.Errorf("Cell(%d, %d) = %d, not %d", class, at, got, want)
			}
		}
	}
}

// P5.2, by the exported functions alone: each cell has as many words as Words says, and Starts is where they begin.
func TestCellsDoNotOverlap(t *testing.T) {
	for class := range sizes.Classes {
		width, _ := sizes.Words(class)
		starts, _ := sizes.Starts(class)
		count, _ := sizes.Cells(class)
		words := map[int]int{}
		for at := range api.PageWords {
			begin := sizes.Cell(class, at)
			if begin == -1 {
				continue
			}
			if begin > at || at >= begin+width || starts>>begin&1 == 0 {
				t.Errorf("class %d: word %d in the cell at %d", class, at, begin)
			}
			words[begin]++
		}
		if len(words) != count {
			t.Errorf("class %d: %d cells, not %d", class, len(words), count)
		}
		for begin, n := range words {
			if n != width {
				t.Errorf("class %d: %d words are in the cell at %d", class, n, begin)
			}
		}
	}
}

// P5.1: Valid and Room; a bit that is of no cell takes no room, but isn't valid.
func TestValidAndRoom(t *testing.T) {
	for class := range widths() {
		p := laid(class)
		for _, alloc := range allocs() {
			valid := true
			for i, begin := range p {
				if alloc>>i%2 == 1 && begin != i {
					valid = false
				}
			}
			if got := sizes.Valid(class, alloc); got != valid {
				t.Errorf("Valid(%d, %x) = %v", class, alloc, got)
			}
			if got := sizes.Room(class, alloc); got != len(p.free(alloc)) {
				t.Errorf("Room(%d, %x) = %d, not %d", class, alloc, got, len(p.free(alloc)))
			}
		}
	}
}

// P5.1: First, from below 0 up to beyond the page.
func TestFirst(t *testing.T) {
	froms := []int{math.MinInt, math.MinInt + 1, -1 << 32, -64, -1, 64, 65, 128, 1 << 32, 1<<32 + 1, math.MaxInt - 1, math.MaxInt}
	for from := range 64 {
		froms = append(froms, from)
	}
	for class := range widths() {
		p := laid(class)
		for _, alloc := range allocs() {
			free := p.free(alloc)
			for _, from := range froms {
				want := -1
				for i := len(free) - 1; i >= 0 && free[i] >= from; i-- {
					want = free[i]
				}
				if got := sizes.First(class, alloc, from); got != want {
					t.Fatalf("First(%d, %x, %d) = %d, not %d", class, alloc, from, got, want)
				}
			}
		}
	}
}

// A page is filled cell by cell, by First, until there is no room.
func TestFirstFillsAPage(t *testing.T) {
	for class := range sizes.Classes {
		starts, _ := sizes.Starts(class)
		room, _ := sizes.Cells(class)
		var alloc uint64
		for at := sizes.First(class, alloc, 0); at != -1; at = sizes.First(class, alloc, 0) {
			if alloc>>at != 0 || sizes.Room(class, alloc) != room {
				t.Fatalf("class %d: %x has room %d, and %d is next", class, alloc, sizes.Room(class, alloc), at)
			}
			alloc |= 1 << at
			room--
		}
		if room != 0 || alloc != starts || !sizes.Valid(class, alloc) {
			t.Errorf("class %d: %x is full, room %d", class, alloc, room)
		}
	}
}

// sizeError: what Pages, Rounds and Fills say of a number of words.
func sizeError(words int) api.Errno {
	if words < 1 {
		return api.ErrArg
	}
	if words > 256 {
		return api.ErrBig
	}
	return api.OK
}

// ownPages: how many pages hold so many words, by trying; 0 for a small object.
func ownPages(words int) int {
	if words <= 32 {
		return 0
	}
	n := 1
	for 64*n < words {
		n++
	}
	return n
}

// P5.1: Pages and Rounds, at all sizes and beyond.
func TestPagesAndRounds(t *testing.T) {
	for _, words := range numbers() {
		pages, reserved := 0, 0
		e := sizeError(words)
		if e == api.OK {
			pages = ownPages(words)
			reserved = 64 * pages
			for class := len(widths()) - 1; pages == 0 && class >= 0 && widths()[class] >= words; class-- {
				reserved = widths()[class]
			}
		}
		if got, e2 := sizes.Pages(words); got != pages || e2 != e {
			t.Errorf("Pages(%d) = %d, %d, not %d, %d", words, got, e2, pages, e)
		}
		if got, e2 := sizes.Rounds(words); got != reserved || e2 != e {
			t.Errorf("Rounds(%d) = %d, %d, not %d, %d", words, got, e2, reserved, e)
		}
	}
	for _, known := range []struct{ words, pages, reserved int }{
		{1, 0, 2}, {2, 0, 2}, {17, 0, 32}, {32, 0, 32}, {33, 1, 64}, {64, 1, 64}, {65, 2, 128}, {128, 2, 128},
		{129, 3, 192}, {192, 3, 192}, {193, 4, 256}, {256, 4, 256},
	} {
		pages, e := sizes.Pages(known.words)
		reserved, e2 := sizes.Rounds(known.words)
		if pages != known.pages || reserved != known.reserved || e != api.OK || e2 != api.OK {
			t.Errorf("%d words: %d pages, %d reserved, %d %d", known.words, pages, reserved, e, e2)
		}
	}
}

// placed puts objects into pages as long as there is room: how many it puts there.
func placed(words, pages int) int {
	n := 0
	if own := ownPages(words); own > 0 {
		for first := 0; first+own <= pages; first += own {
			n++
		}
		return n
	}
	class := 0
	for widths()[class] < words {
		class++
	}
	for range pages {
		n += len(laid(class).begins())
	}
	return n
}

// P5.1: Fills; an error of words comes ahead of one of pages.
func TestFills(t *testing.T) {
	for _, words := range numbers() {
		for _, pages := range numbers() {
			want, e := 0, sizeError(words)
			if e == api.OK && (pages < 0 || pages > 32) {
				e = api.ErrArg
			}
			if e == api.OK {
				want = placed(words, pages)
			}
			if got, e2 := sizes.Fills(words, pages); got != want || e2 != e {
				t.Fatalf("Fills(%d, %d) = %d, %d, not %d, %d", words, pages, got, e2, want, e)
			}
		}
	}
	for _, known := range []struct{ words, pages, n int }{
		{1, 0, 0}, {2, 1, 32}, {3, 32, 672}, {6, 3, 30}, {12, 2, 10}, {32, 32, 64}, {33, 32, 32},
		{64, 7, 7}, {65, 5, 2}, {129, 32, 10}, {256, 3, 0}, {256, 32, 8},
	} {
		if n, e := sizes.Fills(known.words, known.pages); n != known.n || e != api.OK {
			t.Errorf("Fills(%d, %d) = %d, %d", known.words, known.pages, n, e)
		}
	}
	for _, wrong := range []struct {
		words, pages int
		e            api.Errno
	}{{257, 33, api.ErrBig}, {257, -1, api.ErrBig}, {0, 33, api.ErrArg}, {5, 33, api.ErrArg}, {5, -1, api.ErrArg}} {
		if n, e := sizes.Fills(wrong.words, wrong.pages); n != 0 || e != wrong.e {
			t.Errorf("Fills(%d, %d) = %d, %d", wrong.words, wrong.pages, n, e)
		}
	}
}

// Rule 5: what was asked ahead of a call doesn't show in what it returns.
func TestNothingIsKept(t *testing.T) {
	for range 2 {
		for _, class := range append(noClasses(), 7, 0, 3) {
			sizes.Starts(class)
			sizes.Room(class, math.MaxUint64)
			sizes.First(class, math.MaxUint64, 0)
			if sizes.First(1, 1<<3, 1) != 6 || sizes.Room(1, 1<<3) != 20 || sizes.Cell(3, 59) != 54 {
				t.Fatal(class, sizes.First(1, 1<<3, 1), sizes.Room(1, 1<<3), sizes.Cell(3, 59))
			}
		}
	}
}
