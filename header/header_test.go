package header_test

import (
	"math"
	"testing"

	"windrow/api"
	"windrow/header"
)

// heads: all valid headers with their words, made from the chapter's sentences and not by asking for each whether it is one.
func heads() map[header.Head]uint64 {
	m := map[header.Head]uint64{}
	put := func(class, kind, length int) {
		h := header.Head{Class: class, Kind: kind, Len: length}
		m[h] = 0xA5<<56 + uint64(length)<<16 + uint64(class)<<8 + uint64(kind)
	}
	for class := range 16 {
		for length := range 16 {
			put(class, api.Fields, length)
		}
	}
	for length := range 256 {
		put(0, api.Ints, length)
		put(0, api.Refs, length)
	}
	return m
}

// cycles: some that there are; wrongs: some that there aren't.
func cycles() []int {
	return []int{0, 1, 2, 7, 255, 256, 65535, 65536, 1<<31 - 1, 1 << 31, 1<<32 - 2, 1<<32 - 1}
}

func wrongs() []int {
	return []int{math.MinInt, -1 << 32, -2, -1, 1 << 32, 1<<32 + 1, 1<<32 + 7, 1 << 48, math.MaxInt}
}

// entries: all valid entries of these cycles with their words, made in the same way.
func entries() map[header.Entry]uint64 {
	m := map[header.Entry]uint64{}
	put := func(kind, class, state, owner, cycle int) {
		e := header.Entry{Kind: kind, Class: class, State: state, Owner: owner, Cycle: cycle}
		m[e] = uint64(cycle)*65536 + uint64(owner)*256 + uint64(state)*64 + uint64(class)*4 + uint64(kind)
	}
	put(0, 0, 0, 0, 0)
	for class := 1; class <= 3; class++ {
		put(3, class, 0, 0, 0)
	}
	for _, cycle := range cycles() {
		for class := 0; class <= 7; class++ {
			put(1, class, 0, 0, cycle)
			for owner := 0; owner <= 5; owner++ {
				put(1, class, 1, owner, cycle)
				put(1, class, 2, owner, cycle)
			}
			put(1, class, 2, 15, cycle)
		}
		for class := 1; class <= 4; class++ {
			put(2, class, 0, 0, cycle)
			for owner := 0; owner <= 5; owner++ {
				put(2, class, 2, owner, cycle)
			}
			put(2, class, 2, 15, cycle)
		}
	}
	return m
}

// near: numbers around all limits of a field, and such as would be the same within eight bits or 32.
func near() []int {
	l := []int{math.MinInt, -1 << 32, -256, -255, 31, 32, 63, 64, 255, 256, 257, 258, 511, 512, 1 << 32, 1<<32 + 1, math.MaxInt}
	for n := -3; n <= 18; n++ {
		l = append(l, n)
	}
	return l
}

func checkHead(t *testing.T, valid map[header.Head]uint64, h header.Head) {
	t.Helper()
	w, e := header.EncodeHead(h)
	want, ok := valid[h]
	if ok && (w != want || e != api.OK || h.Words() != h.Len+1) {
		t.Fatalf("EncodeHead(%+v) = %x, %d, not %x; Words %d", h, w, e, want, h.Words())
	}
	if !ok && (w != 0 || e != api.ErrForm || h.Words() != 0) {
		t.Fatalf("EncodeHead(%+v) = %x, %d, though it is no header; Words %d", h, w, e, h.Words())
	}
}

func TestHeads(t *testing.T) {
	valid := heads()
	for _, kind := range near() {
		for _, class := range near() {
			for length := -2; length <= 258; length++ {
				checkHead(t, valid, header.Head{Class: class, Kind: kind, Len: length})
			}
			for _, length := range near() {
				checkHead(t, valid, header.Head{Class: class, Kind: kind, Len: length})
			}
		}
	}
}

// P2.2: each valid header comes back from its word, and no other has that word.
func TestHeadsComeBack(t *testing.T) {
	of := map[uint64]header.Head{}
	for h := range heads() {
		w, e := header.EncodeHead(h)
		if other, twice := of[w]; twice || e != api.OK {
			t.Fatalf("%+v and %+v: %x, %d", h, other, w, e)
		}
		of[w] = h
		if got, e := header.DecodeHead(w); got != h || e != api.OK {
			t.Fatalf("DecodeHead(%x) = %+v, %d, not %+v", w, got, e, h)
		}
	}
}

func checkHeadWord(t *testing.T, of map[uint64]header.Head, w uint64) {
	t.Helper()
	h, e := header.DecodeHead(w)
	want, ok := of[w]
	if h != want || ok != (e == api.OK) || !ok && e != api.ErrForm {
		t.Fatalf("DecodeHead(%x) = %+v, %d, not %+v", w, h, e, want)
	}
}

func TestHeadWords(t *testing.T) {
	of := map[uint64]header.Head{}
	for h, w := range heads() {
		of[w] = h
	}
	for w := range of {
		for bit := range 64 {
			checkHeadWord(t, of, w^1<<bit)
		}
	}
	for kind := range uint64(6) {
		for class := range uint64(20) {
			for length := range uint64(256) {
				checkHeadWord(t, of, 0xA5<<56+length<<16+class<<8+kind)
			}
		}
	}
	for sign := range uint64(256) {
		checkHeadWord(t, of, sign<<56+0x020002)
	}
	for _, w := range []uint64{0, 1, 2, math.MaxUint64, 0xA5 << 56, 0xA5, 0xA5<<48 + 2} {
		checkHeadWord(t, of, w)
	}
}

func checkEntry(t *testing.T, valid map[header.Entry]uint64, e header.Entry) {
	t.Helper()
	w, err := header.EncodeEntry(e)
	want, ok := valid[e]
	if ok && (w != want || err != api.OK) {
		t.Fatalf("EncodeEntry(%+v) = %x, %d, not %x", e, w, err, want)
	}
	if !ok && (w != 0 || err != api.ErrForm) {
		t.Fatalf("EncodeEntry(%+v) = %x, %d, though it is no entry", e, w, err)
	}
}

// around: entries of all sorts, most of which are none.
func around() []header.Entry {
	var l []header.Entry
	cycle := []int{0, 7, 1<<32 - 1, -1, 1 << 32}
	for kind := -1; kind <= 4; kind++ {
		for class := -1; class <= 17; class++ {
			for state := -1; state <= 4; state++ {
				for owner := -1; owner <= 17; owner++ {
					for _, c := range cycle {
						l = append(l, header.Entry{Kind: kind, Class: class, State: state, Owner: owner, Cycle: c})
					}
				}
			}
		}
	}
	return l
}

func TestEntries(t *testing.T) {
	valid := entries()
	for _, e := range around() {
		checkEntry(t, valid, e)
	}
	for e := range valid {
		checkEntry(t, valid, e)
		for _, n := range near() {
			kind, class, state, owner := e, e, e, e
			kind.Kind, class.Class, state.State, owner.Owner = n, n, n, n
			for _, other := range []header.Entry{kind, class, state, owner} {
				checkEntry(t, valid, other)
			}
		}
		for _, n := range append(wrongs(), cycles()...) {
			other := e
			other.Cycle = n
			checkEntry(t, valid, other)
		}
	}
}

// P2.2: each valid entry comes back from its word, and no other has that word.
func TestEntriesComeBack(t *testing.T) {
	of := map[uint64]header.Entry{}
	for e := range entries() {
		w, err := header.EncodeEntry(e)
		if other, twice := of[w]; twice || err != api.OK {
			t.Fatalf("%+v and %+v: %x, %d", e, other, w, err)
		}
		of[w] = e
		if got, err := header.DecodeEntry(w); got != e || err != api.OK {
			t.Fatalf("DecodeEntry(%x) = %+v, %d, not %+v", w, got, err, e)
		}
	}
	if len(of) != len(entries()) {
		t.Fatal(len(of))
	}
}

func checkEntryWord(t *testing.T, of map[uint64]header.Entry, w uint64) {
	t.Helper()
	e, err := header.DecodeEntry(w)
	want, ok := of[w]
	if e != want || ok != (err == api.OK) || !ok && err != api.ErrForm {
		t.Fatalf("DecodeEntry(%x) = %+v, %d, not %+v", w, e, err, want)
	}
}

func TestEntryWords(t *testing.T) {
	of := map[uint64]header.Entry{}
	for e, w := range entries() {
		of[w] = e
	}
	// All words of the low bits, with each of the cycles.
	for low := range uint64(65536) {
		for _, cycle := range cycles() {
			checkEntryWord(t, of, uint64(cycle)<<16+low)
		}
	}
	// A bit behind the cycle: no entry has one.
	for w := range of {
		for bit := 48; bit < 64; bit++ {
			checkEntryWord(t, of, w|1<<bit)
		}
	}
	checkEntryWord(t, of, math.MaxUint64)
}

// P2.2: each single bit of the cycle is kept.
func TestCycleBits(t *testing.T) {
	for bit := range 32 {
		e := header.Entry{Kind: header.Small, Class: 3, Cycle: 1 << bit}
		w, err := header.EncodeEntry(e)
		if err != api.OK || w != 1<<(16+bit)+13 {
			t.Errorf("EncodeEntry(%+v) = %x, %d", e, w, err)
		}
		if got, err := header.DecodeEntry(w); err != api.OK || got != e {
			t.Errorf("DecodeEntry(%x) = %+v, %d", w, got, err)
		}
	}
}

// subjects: valid entries, and entries of all sorts.
func subjects() []header.Entry {
	l := around()
	for e := range entries() {
		l = append(l, e)
	}
	return l
}

func TestDue(t *testing.T) {
	valid := entries()
	for _, e := range subjects() {
		_, ok := valid[e]
		for _, cycle := range append(wrongs(), 0, 1, 6, 7, 8, 1<<32-2, 1<<32-1) {
			want := ok && (e.Kind == 1 || e.Kind == 2) && e.State == 0 && e.Cycle < cycle
			if got := e.Due(cycle); got != want {
				t.Fatalf("%+v: Due(%d) = %v", e, cycle, got)
			}
		}
	}
}

func TestReady(t *testing.T) {
	valid := entries()
	for _, e := range subjects() {
		_, ok := valid[e]
		for _, cycle := range []int{e.Cycle, e.Cycle - 1, e.Cycle + 1, 0, math.MinInt, math.MaxInt} {
			for _, class := range []int{e.Class, e.Class - 1, e.Class + 1, 0, 7, 8, math.MinInt, math.MaxInt} {
				want := ok && e.Kind == 1 && e.State == 0 && e.Class == class && e.Cycle == cycle
				if got := e.Ready(class, cycle); got != want {
					t.Fatalf("%+v: Ready(%d, %d) = %v", e, class, cycle, got)
				}
			}
		}
	}
}

// P2.3.
func TestDueIsNotReady(t *testing.T) {
	for e := range entries() {
		for _, cycle := range cycles() {
			for class := -1; class <= 8; class++ {
				due, ready := e.Due(cycle), e.Ready(class, cycle)
				if due && ready {
					t.Fatalf("%+v is both in cycle %d", e, cycle)
				}
				if e.Cycle > cycle && (due || ready) {
					t.Fatalf("%+v was swept later than cycle %d: %v %v", e, cycle, due, ready)
				}
			}
		}
	}
}

func TestTaken(t *testing.T) {
	valid := entries()
	states := []int{math.MinInt, -1, 0, 1, 2, 3, 4, 1 << 32, 1<<32 + 1}
	owners := []int{math.MinInt, -1, 0, 1, 4, 5, 6, 14, 15, 16, 17, 1 << 32, 1<<32 + 5}
	for _, e := range subjects() {
		_, ok := valid[e]
		for _, state := range states {
			for _, owner := range owners {
				want := e
				want.State, want.Owner = state, owner
				err := api.OK
				if _, fine := valid[want]; !ok || !fine {
					want, err = header.Entry{}, api.ErrForm
				}
				if got, e2 := e.Taken(state, owner); got != want || e2 != err {
					t.Fatalf("%+v: Taken(%d, %d) = %+v, %d, not %+v, %d", e, state, owner, got, e2, want, err)
				}
			}
		}
	}
}

func TestGiven(t *testing.T) {
	valid := entries()
	for _, e := range subjects() {
		_, ok := valid[e]
		for _, cycle := range append(wrongs(), cycles()...) {
			want := header.Entry{Kind: e.Kind, Class: e.Class, Cycle: cycle}
			err := api.OK
			if _, fine := valid[want]; !ok || !fine || e.Kind == 0 || e.Kind == 3 {
				want, err = header.Entry{}, api.ErrForm
			}
			if got, e2 := e.Given(cycle); got != want || e2 != err {
				t.Fatalf("%+v: Given(%d) = %+v, %d, not %+v, %d", e, cycle, got, e2, want, err)
			}
		}
	}
}

func TestConstants(t *testing.T) {
	if header.Sign != 0xA5 || header.Sizes != 8 {
		t.Error("Sign, Sizes")
	}
	if header.Free != 0 || header.Small != 1 || header.Large != 2 || header.Tail != 3 {
		t.Error("kinds")
	}
	if header.Idle != 0 || header.Owned != 1 || header.Busy != 2 {
		t.Error("states")
	}
}

func TestExamples(t *testing.T) {
	if w, e := header.EncodeHead(header.Head{Kind: api.Ints, Len: 2}); w != 0xA500000000020002 || e != api.OK {
		t.Errorf("EncodeHead %x %d", w, e)
	}
	if h, e := header.DecodeHead(0); h != (header.Head{}) || e != api.ErrForm {
		t.Error("DecodeHead of 0", h, e)
	}
	if w, e := header.EncodeEntry(header.Entry{Kind: header.Small, Class: 3, State: header.Owned, Owner: 2, Cycle: 7}); w != 459341 || e != api.OK {
		t.Error("EncodeEntry", w, e)
	}
	if w, e := header.EncodeEntry(header.Entry{Kind: header.Tail, Class: 1}); w != 7 || e != api.OK {
		t.Error("a tail", w, e)
	}
	if w, e := header.EncodeEntry(header.Entry{Kind: header.Large, Class: 2, State: header.Owned}); w != 0 || e != api.ErrForm {
		t.Error("a large one is never owned", w, e)
	}
	if e, err := header.DecodeEntry(0); e != (header.Entry{}) || err != api.OK {
		t.Error("a free page", e, err)
	}
}
