package word_test

import (
	"math"
	"slices"
	"testing"

	"windrow/api"
	"windrow/word"
)

// spread is a word as its single bits, lowest first: what the functions are held against.
type spread [64]bool

func open(w uint64) spread {
	var s spread
	for i := range s {
		s[i] = w%2 == 1
		w /= 2
	}
	return s
}

func (s spread) close() uint64 {
	var w uint64
	for i := len(s) - 1; i >= 0; i-- {
		w *= 2
		if s[i] {
			w++
		}
	}
	return w
}

// places: the numbers of the bits that are 1, rising.
func (s spread) places() []int {
	var l []int
	for i, one := range s {
		if one {
			l = append(l, i)
		}
	}
	return l
}

// isField says by cases what the chapter says in words, without a sum that could wrap round.
func isField(at, width int) bool {
	for a := range 64 {
		for w := 1; a+w <= 64; w++ {
			if a == at && w == width {
				return true
			}
		}
	}
	return false
}

// words: edges, single bits, low masks, and words without a pattern of several densities.
func words() []uint64 {
	l := []uint64{0, 1, math.MaxUint64, 0xAAAAAAAAAAAAAAAA, 0x5555555555555555, 0xF0, 0b1001, 0b1010, 1<<63 | 1, 0xFFFFFFFF00000000}
	for i := range 64 {
		l = append(l, 1<<i, 1<<i-1, ^uint64(1<<i))
	}
	x := uint64(0x9E3779B97F4A7C15)
	next := func() uint64 {
		x ^= x << 13
		x ^= x >> 7
		x ^= x << 17
		return x
	}
	for range 24 {
		a, b, c := next(), next(), next()
		l = append(l, a, a&b, a|b, a&b&c, a|b|c)
	}
	return l
}

// few: every seventh of the words, for tests with many other arguments.
func few() []uint64 {
	var l []uint64
	for i, w := range words() {
		if i < 10 || i%7 == 0 {
			l = append(l, w)
		}
	}
	return l
}

// numbers: all that could be bits or counts of them, what lies beside, and the ends of int.
func numbers() []int {
	l := []int{math.MinInt, math.MinInt + 1, math.MinInt + 64, -1 << 32, -129, -128, -127, 127, 128, 129, 1 << 32, 1<<32 + 1, math.MaxInt - 63, math.MaxInt - 1, math.MaxInt}
	for n := -70; n <= 70; n++ {
		l = append(l, n)
	}
	return l
}

func TestSize(t *testing.T) {
	if word.Size != 64 {
		t.Error(word.Size)
	}
}

func TestMask(t *testing.T) {
	for _, n := range numbers() {
		var s spread
		for i := range s {
			s[i] = i < n
		}
		if w := word.Mask(n); w != s.close() {
			t.Errorf("Mask(%d) = %x, not %x", n, w, s.close())
		}
	}
}

// sides: some fields that are valid, the edges, and what is none.
func sides() []int {
	return []int{math.MinInt, math.MinInt + 1, -64, -1, 0, 1, 2, 3, 4, 7, 8, 15, 16, 31, 32, 33, 47, 48, 61, 62, 63, 64, 65, 128, 1 << 32, math.MaxInt - 63, math.MaxInt - 1, math.MaxInt}
}

func TestGet(t *testing.T) {
	for _, at := range sides() {
		for _, width := range sides() {
			ok := isField(at, width)
			for _, w := range few() {
				got, e := word.Get(w, at, width)
				if !ok {
					if e != api.ErrArg || got != 0 {
						t.Fatalf("Get(%x, %d, %d) = %x, %d: no such field", w, at, width, got, e)
					}
					continue
				}
				var s spread
				from := open(w)
				copy(s[:], from[at:at+width])
				if e != api.OK || got != s.close() {
					t.Fatalf("Get(%x, %d, %d) = %x, %d, not %x", w, at, width, got, e, s.close())
				}
			}
		}
	}
}

// values: numbers that are stored: those around the greatest of each width.
func values(width int) []uint64 {
	l := []uint64{0, 1, 2, 5, 1 << 63, math.MaxUint64, math.MaxUint64 - 1, 0x123456789ABCDEF0}
	if width >= 1 && width <= 63 {
		l = append(l, 1<<width-2, 1<<width-1, 1<<width, 1<<width+1)
	}
	return l
}

func TestPut(t *testing.T) {
	for _, at := range sides() {
		for _, width := range sides() {
			ok := isField(at, width)
			for _, w := range few() {
				for _, v := range values(width) {
					checkPut(t, ok, w, at, width, v)
				}
			}
		}
	}
}

func checkPut(t *testing.T, ok bool, w uint64, at, width int, v uint64) {
	t.Helper()
	got, e := word.Put(w, at, width, v)
	if !ok {
		if e != api.ErrArg || got != 0 {
			t.Fatalf("Put(%x, %d, %d, %x) = %x, %d: no such field", w, at, width, v, got, e)
		}
		return
	}
	bits := open(v)
	for _, one := range bits[width:] {
		if one {
			if e != api.ErrBig || got != 0 {
				t.Fatalf("Put(%x, %d, %d, %x) = %x, %d: it doesn't fit", w, at, width, v, got, e)
			}
			return
		}
	}
	s := open(w)
	copy(s[at:at+width], bits[:width])
	if e != api.OK || got != s.close() {
		t.Fatalf("Put(%x, %d, %d, %x) = %x, %d, not %x", w, at, width, v, got, e, s.close())
	}
}

// P1.2: for each field there is.
func TestGetReturnsWhatPutStored(t *testing.T) {
	for at := range 64 {
		for width := 1; at+width <= 64; width++ {
			for _, w := range []uint64{0, math.MaxUint64, 0x0123456789ABCDEF} {
				for _, v := range []uint64{0, 1, math.MaxUint64 >> (64 - width), 0xDEADBEEFCAFEF00D >> (64 - width)} {
					put, e := word.Put(w, at, width, v)
					if e != api.OK {
						t.Fatalf("Put(%x, %d, %d, %x): %d", w, at, width, v, e)
					}
					if got, e := word.Get(put, at, width); e != api.OK || got != v {
						t.Fatalf("Get after Put(%x, %d, %d, %x) = %x, %d", w, at, width, v, got, e)
					}
					was, is := open(w), open(put)
					if !slices.Equal(was[:at], is[:at]) || !slices.Equal(was[at+width:], is[at+width:]) {
						t.Fatalf("Put(%x, %d, %d, %x) = %x changes other bits", w, at, width, v, put)
					}
				}
			}
		}
	}
}

func TestOnesLowestHighest(t *testing.T) {
	for _, w := range words() {
		l := open(w).places()
		low, high := 64, -1
		if len(l) > 0 {
			low, high = l[0], l[len(l)-1]
		}
		if n := word.Ones(w); n != len(l) {
			t.Errorf("Ones(%x) = %d, not %d", w, n, len(l))
		}
		if n := word.Lowest(w); n != low {
			t.Errorf("Lowest(%x) = %d, not %d", w, n, low)
		}
		if n := word.Highest(w); n != high {
			t.Errorf("Highest(%x) = %d, not %d", w, n, high)
		}
	}
}

func TestRank(t *testing.T) {
	for _, w := range words() {
		l := open(w).places()
		for _, at := range numbers() {
			n := 0
			for _, place := range l {
				if place < at {
					n++
				}
			}
			if got := word.Rank(w, at); got != n {
				t.Fatalf("Rank(%x, %d) = %d, not %d", w, at, got, n)
			}
		}
	}
}

func TestSelect(t *testing.T) {
	for _, w := range words() {
		l := open(w).places()
		for _, k := range numbers() {
			want := -1
			if k >= 0 && k < len(l) {
				want = l[k]
			}
			if got := word.Select(w, k); got != want {
				t.Fatalf("Select(%x, %d) = %d, not %d", w, k, got, want)
			}
		}
	}
}

// P1.3.
func TestRankAndSelectAreInverse(t *testing.T) {
	for _, w := range words() {
		for k := range word.Ones(w) {
			if n := word.Rank(w, word.Select(w, k)); n != k {
				t.Fatalf("Rank of Select(%x, %d) is %d", w, k, n)
			}
		}
		for _, at := range open(w).places() {
			if n := word.Select(w, word.Rank(w, at)); n != at {
				t.Fatalf("Select of Rank(%x, %d) is %d", w, at, n)
			}
		}
	}
}

// gap looks for the first place at which n zeros stand, a bit at a time.
func gap(w uint64, n int) int {
	if n < 1 {
		return 0
	}
	zeros := 0
	for i, one := range open(w) {
		zeros++
		if one {
			zeros = 0
		}
		if zeros == n {
			return i - n + 1
		}
	}
	return -1
}

func TestGap(t *testing.T) {
	for _, w := range words() {
		for _, n := range numbers() {
			if got, want := word.Gap(w, n), gap(w, n); got != want {
				t.Fatalf("Gap(%x, %d) = %d, not %d", w, n, got, want)
			}
		}
	}
	for _, c := range []struct {
		w       uint64
		n, want int
	}{{0b1001, 2, 1}, {0, 64, 0}, {0, 65, -1}, {1, 63, 1}, {1, 64, -1}, {1 << 63, 63, 0}, {1 << 62, 1, 0}, {math.MaxUint64, 0, 0}, {math.MaxUint64, 1, -1}, {math.MaxUint64 >> 1, 1, 63}, {math.MaxUint64 >> 1, 2, -1}} {
		if got := word.Gap(c.w, c.n); got != c.want {
			t.Errorf("Gap(%x, %d) = %d, not %d", c.w, c.n, got, c.want)
		}
	}
}

func TestTurn(t *testing.T) {
	for _, w := range words() {
		from := open(w)
		for _, by := range numbers() {
			// The remainder is brought to 0 to 63 ahead of the sum, which could wrap round.
			left := (by%64 + 64) % 64
			var s spread
			for i, one := range from {
				s[(i+left)%64] = one
			}
			if got := word.Turn(w, by); got != s.close() {
				t.Fatalf("Turn(%x, %d) = %x, not %x", w, by, got, s.close())
			}
		}
	}
	if word.Turn(1, -1) != 1<<63 || word.Turn(1<<63, 1) != 1 || word.Turn(6, 64) != 6 || word.Turn(6, math.MinInt) != 6 {
		t.Error("Turn round the end")
	}
}

func TestBits(t *testing.T) {
	for _, w := range words() {
		if got, want := slices.Collect(word.Bits(w)), open(w).places(); !slices.Equal(got, want) {
			t.Fatalf("Bits(%x): %v, not %v", w, got, want)
		}
	}
}

// P1.4: one iterator is stopped at each place in turn, and gives everything once more at the end.
func TestBitsStopsAndStartsAgain(t *testing.T) {
	for _, w := range words() {
		want := open(w).places()
		bits := word.Bits(w)
		for stop := range want {
			var got []int
			over := false
			bits(func(at int) bool {
				if over {
					t.Fatalf("Bits(%x) goes on after %v", w, got)
				}
				got = append(got, at)
				over = len(got) > stop
				return !over
			})
			if !slices.Equal(got, want[:stop+1]) {
				t.Fatalf("Bits(%x) stopped at %d: %v", w, stop, got)
			}
		}
		for range 2 {
			if got := slices.Collect(bits); !slices.Equal(got, want) {
				t.Fatalf("Bits(%x) again: %v, not %v", w, got, want)
			}
		}
	}
}

// P1.4: an iterator may also be used while it is being used.
func TestBitsWithinItself(t *testing.T) {
	const w = 0b1011
	var got []int
	bits := word.Bits(w)
	for a := range bits {
		for b := range bits {
			got = append(got, a*10+b)
		}
	}
	if want := []int{0, 1, 3, 10, 11, 13, 30, 31, 33}; !slices.Equal(got, want) {
		t.Error(got)
	}
}

func TestPack(t *testing.T) {
	cases := []struct {
		values []uint64
		widths []int
		w      uint64
		e      api.Errno
	}{
		{nil, nil, 0, api.OK},
		{[]uint64{}, nil, 0, api.OK},
		{[]uint64{1, 2}, []int{1, 3}, 5, api.OK},
		{[]uint64{1, 3, 7}, []int{8, 8, 8}, 0x070301, api.OK},
		{[]uint64{math.MaxUint64}, []int{64}, math.MaxUint64, api.OK},
		{[]uint64{0x89ABCDEF, 0x01234567}, []int{32, 32}, 0x0123456789ABCDEF, api.OK},
		{[]uint64{math.MaxUint64 >> 1, 1}, []int{63, 1}, math.MaxUint64, api.OK},
		{[]uint64{math.MaxUint64 >> 1, 2}, []int{63, 1}, 0, api.ErrBig},
		{[]uint64{0, 0}, []int{63, 2}, 0, api.ErrArg},
		{[]uint64{0, 0}, []int{64, 1}, 0, api.ErrArg},
		{[]uint64{0, 0}, []int{64, 0}, 0, api.ErrArg},
		{[]uint64{0}, []int{65}, 0, api.ErrArg},
		{[]uint64{0}, []int{0}, 0, api.ErrArg},
		{[]uint64{0}, []int{-1}, 0, api.ErrArg},
		{[]uint64{1, 0}, []int{1, -1}, 0, api.ErrArg},
		{[]uint64{1, 0, 0}, []int{8, -8, 8}, 0, api.ErrArg},
		{[]uint64{1, 0}, []int{1, math.MaxInt}, 0, api.ErrArg},
		{[]uint64{1, 0}, []int{1, math.MinInt}, 0, api.ErrArg},
		{[]uint64{2}, []int{1}, 0, api.ErrBig},
		{[]uint64{1, 8}, []int{1, 3}, 0, api.ErrBig},
		// The first number that cannot be stored tells the error.
		{[]uint64{2, 0}, []int{1, 0}, 0, api.ErrBig},
		{[]uint64{0, 2}, []int{0, 1}, 0, api.ErrArg},
		{[]uint64{2, 0, 9}, []int{64, 1, 3}, 0, api.ErrArg},
		// Lists of different lengths come ahead of everything else.
		{[]uint64{1}, nil, 0, api.ErrArg},
		{nil, []int{1}, 0, api.ErrArg},
		{[]uint64{2, 1}, []int{1}, 0, api.ErrArg},
		{[]uint64{2}, []int{1, 1}, 0, api.ErrArg},
	}
	for _, c := range cases {
		if w, e := word.Pack(c.values, c.widths); w != c.w || e != c.e {
			t.Errorf("Pack(%v, %v) = %x, %d, not %x, %d", c.values, c.widths, w, e, c.w, c.e)
		}
	}
}

func TestUnpack(t *testing.T) {
	cases := []struct {
		w      uint64
		widths []int
		values []uint64
		e      api.Errno
	}{
		{math.MaxUint64, nil, nil, api.OK},
		{5, []int{1, 3}, []uint64{1, 2}, api.OK},
		{0xFFF5, []int{1, 3}, []uint64{1, 2}, api.OK},
		{0x0123456789ABCDEF, []int{32, 32}, []uint64{0x89ABCDEF, 0x01234567}, api.OK},
		{math.MaxUint64, []int{64}, []uint64{math.MaxUint64}, api.OK},
		{1 << 63, []int{63, 1}, []uint64{0, 1}, api.OK},
		{math.MaxUint64, []int{63, 2}, nil, api.ErrArg},
		{math.MaxUint64, []int{64, 1}, nil, api.ErrArg},
		{math.MaxUint64, []int{64, 0}, nil, api.ErrArg},
		{math.MaxUint64, []int{65}, nil, api.ErrArg},
		{math.MaxUint64, []int{0}, nil, api.ErrArg},
		{math.MaxUint64, []int{8, -8, 8}, nil, api.ErrArg},
		{math.MaxUint64, []int{1, math.MaxInt}, nil, api.ErrArg},
		{math.MaxUint64, []int{math.MinInt}, nil, api.ErrArg},
	}
	for _, c := range cases {
		if l, e := word.Unpack(c.w, c.widths); !slices.Equal(l, c.values) || e != c.e {
			t.Errorf("Unpack(%x, %v) = %x, %d, not %x, %d", c.w, c.widths, l, e, c.values, c.e)
		}
	}
}

// splits: widths that fill a word, or less of it.
func splits() [][]int {
	ones := make([]int, 64)
	for i := range ones {
		ones[i] = 1
	}
	return [][]int{ones, {64}, {1, 63}, {63, 1}, {8, 8, 8, 8, 8, 8, 8, 8}, {2, 4, 2, 4, 4, 32}, {3, 5, 7, 11, 13}, {7, 1, 1}}
}

// P1.2, for many fields at once.
func TestUnpackReturnsWhatPackStored(t *testing.T) {
	for _, widths := range splits() {
		sum := 0
		for _, n := range widths {
			sum += n
		}
		for _, w := range words() {
			l, e := word.Unpack(w, widths)
			if e != api.OK || len(l) != len(widths) {
				t.Fatalf("Unpack(%x, %v) = %x, %d", w, widths, l, e)
			}
			back, e := word.Pack(l, widths)
			if want := w & (math.MaxUint64 >> (64 - sum)); e != api.OK || back != want {
				t.Fatalf("Pack(%x, %v) = %x, %d, not %x", l, widths, back, e, want)
			}
		}
	}
}

// Rule 4: neither what is passed nor its spare capacity is touched, and a result is new memory.
func TestListsAreLeftAlone(t *testing.T) {
	values := []uint64{1, 2, 77, 78}
	widths := []int{1, 3, 87, 88}
	word.Pack(values[:2], widths[:2])
	a, _ := word.Unpack(5, widths[:2])
	b, _ := word.Unpack(5, widths[:2])
	if !slices.Equal(values, []uint64{1, 2, 77, 78}) || !slices.Equal(widths, []int{1, 3, 87, 88}) {
		t.Fatal(values, widths)
	}
	if len(a) != 2 || len(b) != 2 {
		t.Fatal(a, b)
	}
	a[0], a[1] = 90, 91
	widths[0], widths[1] = 2, 2
	if !slices.Equal(b, []uint64{1, 2}) {
		t.Error("two results share memory:", b)
	}
	if c, e := word.Unpack(5, widths[:2]); e != api.OK || !slices.Equal(c, []uint64{1, 1}) {
		t.Error("a list was kept:", c, e)
	}
}

func TestExamples(t *testing.T) {
	if v, e := word.Get(0xF0, 4, 4); v != 15 || e != api.OK {
		t.Error("Get", v, e)
	}
	if w, e := word.Put(0, 4, 4, 16); w != 0 || e != api.ErrBig {
		t.Error("Put: too great", w, e)
	}
	if w, e := word.Put(0, 62, 3, 0); w != 0 || e != api.ErrArg {
		t.Error("Put: no field", w, e)
	}
	// A field that is none is told ahead of a number that doesn't fit.
	if w, e := word.Put(5, 62, 3, 99); w != 0 || e != api.ErrArg {
		t.Error("Put: neither", w, e)
	}
	if word.Select(0b1010, 1) != 3 || word.Rank(0b1010, 3) != 1 || word.Gap(0b1001, 2) != 1 || word.Gap(0, 65) != -1 {
		t.Error("Select, Rank, Gap")
	}
}
