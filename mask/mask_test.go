package mask_test

import (
	"math"
	"slices"
	"testing"

	"windrow/api"
	"windrow/mask"
)

// span is a set as one flag for each number below its end: what the functions are held against.
type span []bool

func open(l []uint64) span {
	s := make(span, 64*len(l))
	for i := range s {
		s[i] = l[i/64]>>(i%64)&1 == 1
	}
	return s
}

func (s span) close() []uint64 {
	l := make([]uint64, len(s)/64)
	for i, in := range s {
		if in {
			l[i/64] |= 1 << (i % 64)
		}
	}
	return l
}

func (s span) has(at int) bool { return at >= 0 && at < len(s) && s[at] }

// places: the numbers that are elements, rising.
func (s span) places() []int {
	var l []int
	for i, in := range s {
		if in {
			l = append(l, i)
		}
	}
	return l
}

// grown: the span with at least n words.
func (s span) grown(n int) span {
	g := make(span, max(len(s), 64*n))
	copy(g, s)
	return g
}

type pair struct{ begin, n int }

// runs: where elements stand one behind the other.
func (s span) runs() []pair {
	var l []pair
	for i := 0; i < len(s); i++ {
		if s[i] && !s.has(i-1) {
			n := 1
			for s.has(i + n) {
				n++
			}
			l = append(l, pair{i, n})
		}
	}
	return l
}

// lists: the edges, single bits, full words in a row, zeros at the end, and lists without a pattern.
func lists() [][]uint64 {
	all := uint64(math.MaxUint64)
	l := [][]uint64{
		nil, {}, {0}, {1}, {6}, {6, 1}, {all}, {1 << 63}, {all - 1}, {all >> 1}, {0, 0}, {0, 1}, {1, 0},
		{1 << 63, 1}, {all, all}, {all, 0, all}, {0, all, 0}, {all << 1, all >> 1}, {all >> 1, all << 1},
		{3 << 62, 7, 0}, {0, 0, 1 << 63}, {1 << 63, all, 1}, {0xAAAAAAAAAAAAAAAA, 0x5555555555555555},
		{0, 0, 0, 0}, {^uint64(1 << 31), all, ^uint64(1)}, {0, 1 << 5, 0, 0},
	}
	x := uint64(0x9E3779B97F4A7C15)
	next := func() uint64 {
		x ^= x << 13
		x ^= x >> 7
		x ^= x << 17
		return x
	}
	for n := range 12 {
		a, b := make([]uint64, n%5), make([]uint64, n%4)
		for i := range a {
			a[i] = next() & next() & next()
		}
		for i := range b {
			b[i] = next() | next() | next()
		}
		l = append(l, a, b)
	}
	return l
}

// numbers: all around the ends of these lists, and the ends of int and of a set.
func numbers() []int {
	l := []int{math.MinInt, math.MinInt + 1, -1 << 32, -65, -64, -63, 65534, 65535, 65536, 65537, 1 << 32, 1<<32 + 1, 1<<32 + 64, math.MaxInt - 64, math.MaxInt - 1, math.MaxInt}
	for n := -3; n <= 330; n++ {
		l = append(l, n)
	}
	return l
}

func TestExamples(t *testing.T) {
	if l, e := mask.Of([]int{1, 2, 64}); !slices.Equal(l, []uint64{6, 1}) || e != api.OK {
		t.Error("Of", l, e)
	}
	l := []uint64{6, 1}
	if r := runs(l); !slices.Equal(r, []pair{{1, 2}, {64, 1}}) {
		t.Error("Runs", r)
	}
	if mask.Next(l, 3) != 64 || mask.Clear(l, 1) != 3 || mask.Fit(l, 62) != 65 {
		t.Error(mask.Next(l, 3), mask.Clear(l, 1), mask.Fit(l, 62))
	}
	if mask.Fit([]uint64{6}, 62) != -1 || mask.Fit([]uint64{6}, 61) != 3 {
		t.Error(mask.Fit([]uint64{6}, 62), mask.Fit([]uint64{6}, 61))
	}
	if mask.Most != 1024 {
		t.Error(mask.Most)
	}
}

func TestHasAndCount(t *testing.T) {
	for _, l := range lists() {
		s := open(l)
		if n := mask.Count(l); n != len(s.places()) {
			t.Errorf("Count(%x) = %d", l, n)
		}
		for _, at := range numbers() {
			if got := mask.Has(l, at); got != s.has(at) {
				t.Errorf("Has(%x, %d) = %v", l, at, got)
			}
		}
	}
}

func TestWith(t *testing.T) {
	for _, l := range lists() {
		for _, at := range numbers() {
			got, e := mask.With(l, at)
			if at < 0 || at >= 65536 {
				if len(got) != 0 || e != api.ErrArg {
					t.Fatalf("With(%x, %d) = %x, %d", l, at, got, e)
				}
				continue
			}
			want := open(l).grown(at/64 + 1)
			want[at] = true
			if e != api.OK || !slices.Equal(got, want.close()) {
				t.Fatalf("With(%x, %d) = %x, %d", l, at, got, e)
			}
		}
	}
}

func TestWithout(t *testing.T) {
	for _, l := range lists() {
		for _, at := range numbers() {
			got, e := mask.Without(l, at)
			if at < 0 || at >= 65536 {
				if len(got) != 0 || e != api.ErrArg {
					t.Fatalf("Without(%x, %d) = %x, %d", l, at, got, e)
				}
				continue
			}
			want := open(l)
			if at < len(want) {
				want[at] = false
			}
			if e != api.OK || !slices.Equal(got, want.close()) {
				t.Fatalf("Without(%x, %d) = %x, %d", l, at, got, e)
			}
		}
	}
}

// A list that is longer than a set may be is read like any other; what is put in or taken out is not.
func TestLongLists(t *testing.T) {
	l := make([]uint64, mask.Most+2)
	l[mask.Most] = 2
	if !mask.Has(l, 65537) || mask.Next(l, 0) != 65537 || mask.Clear(l, 65537) != 65538 || mask.Fit(l, 65538) != -1 || mask.Fit(l, 65537) != 0 {
		t.Error(mask.Has(l, 65537), mask.Next(l, 0), mask.Clear(l, 65537), mask.Fit(l, 65538), mask.Fit(l, 65537))
	}
	if got, e := mask.With(l, 65536); len(got) != 0 || e != api.ErrArg {
		t.Error(len(got), e)
	}
	if got, e := mask.Without(l, 65537); len(got) != 0 || e != api.ErrArg {
		t.Error(len(got), e)
	}
	got, e := mask.With(l, 65535)
	if e != api.OK || len(got) != mask.Most+2 || mask.Count(got) != 2 || !mask.Has(got, 65535) {
		t.Error(e, len(got), mask.Count(got))
	}
}

func TestOf(t *testing.T) {
	for _, places := range [][]int{nil, {}, {0}, {63}, {64}, {65535}, {0, 0}, {64, 1, 2, 1}, {200, 3, 130, 64, 63}, {65535, 0}} {
		s := span{}
		for _, at := range places {
			s = s.grown(at/64 + 1)
			s[at] = true
		}
		if got, e := mask.Of(places); !slices.Equal(got, s.close()) || e != api.OK {
			t.Errorf("Of(%d) has %d words, %d", places, len(got), e)
		}
	}
	for _, at := range []int{math.MinInt, -64, -1, 65536, 65537, 1 << 32, math.MaxInt} {
		for _, places := range [][]int{{at}, {at, 1}, {1, at}, {1, 64, at, 2}} {
			if got, e := mask.Of(places); len(got) != 0 || e != api.ErrArg {
				t.Errorf("Of(%d) = %x, %d", places, got, e)
			}
		}
	}
}

// Of what All goes through is the set again, without zeros at its end.
func TestOfAll(t *testing.T) {
	for _, l := range lists() {
		got, e := mask.Of(slices.Collect(mask.All(l)))
		if e != api.OK || !mask.Same(got, l) || len(got) > len(l) || len(got) > 0 && got[len(got)-1] == 0 {
			t.Errorf("%x: %x, %d", l, got, e)
		}
	}
}

func TestNextAndClear(t *testing.T) {
	for _, l := range lists() {
		s := open(l)
		for _, from := range numbers() {
			next, clear := -1, -1
			for i := len(s) - 1; i >= 0 && i >= from; i-- {
				if s[i] {
					next = i
				} else {
					clear = i
				}
			}
			if got := mask.Next(l, from); got != next {
				t.Fatalf("Next(%x, %d) = %d, not %d", l, from, got, next)
			}
			if got := mask.Clear(l, from); got != clear {
				t.Fatalf("Clear(%x, %d) = %d, not %d", l, from, got, clear)
			}
		}
	}
}

func TestAll(t *testing.T) {
	for _, l := range lists() {
		all := mask.All(l)
		want := open(l).places()
		for range 2 {
			if got := slices.Collect(all); !slices.Equal(got, want) {
				t.Fatalf("All(%x): %d, not %d", l, got, want)
			}
		}
		for stop := 1; stop <= len(want); stop++ {
			var got []int
			for at := range all {
				got = append(got, at)
				if len(got) == stop {
					break
				}
			}
			if !slices.Equal(got, want[:stop]) {
				t.Fatalf("All(%x), stopped: %d", l, got)
			}
		}
	}
}

// runs: what Runs goes through.
func runs(l []uint64) []pair {
	var got []pair
	for begin, n := range mask.Runs(l) {
		got = append(got, pair{begin, n})
	}
	return got
}

func TestRuns(t *testing.T) {
	for _, l := range lists() {
		all := mask.Runs(l)
		want := open(l).runs()
		for stop := 1; stop <= len(want)+1; stop++ {
			var got []pair
			for begin, n := range all {
				got = append(got, pair{begin, n})
				if len(got) == stop {
					break
				}
			}
			if !slices.Equal(got, want[:min(stop, len(want))]) {
				t.Fatalf("Runs(%x) up to %d: %d, not %d", l, stop, got, want)
			}
		}
	}
}

// P4.2.
func TestRunsAndTheNumbersBetween(t *testing.T) {
	for _, l := range lists() {
		behind, elements := 0, 0
		for begin, n := range mask.Runs(l) {
			if n < 1 || begin < behind || behind > 0 && begin == behind {
				t.Fatalf("%x: a run of %d at %d", l, n, begin)
			}
			for at := behind; at < begin; at++ {
				if mask.Has(l, at) {
					t.Fatalf("%x: %d is between", l, at)
				}
			}
			for at := begin; at < begin+n; at++ {
				if !mask.Has(l, at) {
					t.Fatalf("%x: %d is in a run", l, at)
				}
			}
			behind, elements = begin+n, elements+n
		}
		if behind > 64*len(l) || elements != mask.Count(l) || mask.Next(l, behind) != -1 {
			t.Fatalf("%x: %d elements, the last below %d", l, elements, behind)
		}
	}
}

// One iterator goes on within another, and within itself.
func TestIteratorsWithinIterators(t *testing.T) {
	l := []uint64{0b1011, 1}
	all, rows := mask.All(l), mask.Runs(l)
	sum := 0
	for a := range all {
		for begin, n := range rows {
			for b := range all {
				sum += a + b*n + begin
			}
		}
	}
	want := 0
	for _, a := range []int{0, 1, 3, 64} {
		for _, r := range []pair{{0, 2}, {3, 1}, {64, 1}} {
			for _, b := range []int{0, 1, 3, 64} {
				want += a + b*r.n + r.begin
			}
		}
	}
	if sum != want {
		t.Error(sum, want)
	}
}

func TestFit(t *testing.T) {
	for _, l := range lists() {
		s := open(l)
		for _, n := range numbers() {
			want := -1
			if n < 1 {
				want = 0
			}
			for from := 0; want < 0 && n <= len(s)-from; from++ {
				if !slices.Contains(s[from:from+n], true) {
					want = from
				}
			}
			if got := mask.Fit(l, n); got != want {
				t.Fatalf("Fit(%x, %d) = %d, not %d", l, n, got, want)
			}
		}
	}
}

func TestTwoSets(t *testing.T) {
	for _, a := range lists() {
		for _, b := range lists() {
			x, y := open(a).grown(len(b)), open(b).grown(len(a))
			union, meet, minus := make(span, len(x)), make(span, len(x)), make(span, len(x))
			within, same := true, true
			for i := range x {
				union[i] = x[i] || y[i]
				meet[i] = x[i] && y[i]
				minus[i] = x[i] && !y[i]
				within = within && (!x[i] || y[i])
				same = same && x[i] == y[i]
			}
			if got := mask.Union(a, b); !slices.Equal(got, union.close()) {
				t.Fatalf("Union(%x, %x) = %x", a, b, got)
			}
			if got := mask.Meet(a, b); !slices.Equal(got, meet.close()) {
				t.Fatalf("Meet(%x, %x) = %x", a, b, got)
			}
			if got := mask.Minus(a, b); !slices.Equal(got, minus.close()) {
				t.Fatalf("Minus(%x, %x) = %x", a, b, got)
			}
			if mask.Within(a, b) != within || mask.Same(a, b) != same {
				t.Fatalf("%x, %x: %v, %v", a, b, mask.Within(a, b), mask.Same(a, b))
			}
		}
	}
}

// spare: a list with words behind its end that must stay as they are.
func spare() []uint64 { return []uint64{6, 1, 0xBEEF, 0xBEEF, 0xBEEF} }

// P4.3: no argument changes, not even behind its end.
func TestArgumentsStay(t *testing.T) {
	whole, other := spare(), []uint64{5, 0, 7, 0xCAFE}
	l, m := whole[:2], other[:3]
	places := []int{64, 1, 2, 9, 9}
	mask.Of(places[:3])
	mask.Has(l, 1)
	mask.With(l, 0)
	mask.With(l, 200)
	mask.With(l, -1)
	mask.Without(l, 1)
	mask.Without(l, 200)
	mask.Count(l)
	mask.Next(l, 0)
	mask.Clear(l, 0)
	mask.Fit(l, 3)
	for range mask.All(l) {
	}
	for range mask.Runs(l) {
	}
	for _, f := range []func(a, b []uint64) []uint64{mask.Union, mask.Meet, mask.Minus} {
		f(l, m)
		f(m, l)
		f(l, l)
	}
	mask.Within(l, m)
	mask.Within(m, l)
	mask.Same(l, m)
	if !slices.Equal(whole, spare()) || !slices.Equal(other, []uint64{5, 0, 7, 0xCAFE}) || !slices.Equal(places, []int{64, 1, 2, 9, 9}) {
		t.Error(whole, other, places)
	}
}

// results: all lists that are made of l.
func results(l []uint64) [][]uint64 {
	none := make([]uint64, 3)
	with, _ := mask.With(l, 1)
	more, _ := mask.With(l, 130)
	without, _ := mask.Without(l, 0)
	beyond, _ := mask.Without(l, 65535)
	return [][]uint64{
		with, more, without, beyond,
		mask.Union(l, nil), mask.Union(nil, l), mask.Union(l, none), mask.Union(none, l), mask.Union(l, l),
		mask.Meet(l, l), mask.Minus(l, nil), mask.Minus(l, none), mask.Minus(none, l),
	}
}

// P4.3: no result shares memory with an argument or with another result.
func TestResultsAreNewMemory(t *testing.T) {
	whole := spare()
	l := whole[:2]
	got := results(l)
	for i := range got {
		before := results(spare()[:2])
		for k := range got[i] {
			got[i][k] = 0xF00D
		}
		_ = append(got[i], 0xF00D, 0xF00D)
		if !slices.Equal(whole, spare()) {
			t.Fatalf("result %d shares its argument's memory", i)
		}
		for j := i + 1; j < len(got); j++ {
			if !slices.Equal(got[j], before[j]) {
				t.Fatalf("results %d and %d share memory", i, j)
			}
		}
	}
	got = results(l)
	clear(whole)
	for i, want := range results(spare()[:2]) {
		if !slices.Equal(got[i], want) {
			t.Fatalf("result %d follows its argument", i)
		}
	}
}

// P4.3: an iterator goes through the set that it was asked of, whatever becomes of the list.
func TestIteratorsKeepNoList(t *testing.T) {
	l := []uint64{6, 1}
	all, rows := mask.All(l), mask.Runs(l)
	var places []int
	for at := range all {
		clear(l)
		places = append(places, at)
	}
	var got []pair
	for begin, n := range rows {
		l[0], l[1] = math.MaxUint64, math.MaxUint64
		got = append(got, pair{begin, n})
	}
	if !slices.Equal(places, []int{1, 2, 64}) || !slices.Equal(got, []pair{{1, 2}, {64, 1}}) {
		t.Error(places, got)
	}
}

// Rule 8: also of nothing, there is an iterator.
func TestIteratorsAreNeverNil(t *testing.T) {
	for _, l := range [][]uint64{nil, {}, {0}} {
		all, rows := mask.All(l), mask.Runs(l)
		if all == nil || rows == nil {
			t.Fatal("no iterator")
		}
		for range 2 {
			for at := range all {
				t.Error(l, at)
			}
			for begin, n := range rows {
				t.Error(l, begin, n)
			}
		}
	}
}
