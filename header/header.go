// Package header is layer 2: see shared/doc/02-header.md.
package header

import (
	"windrow/api"
	"windrow/word"
)

// Sign stands in the highest byte of each header.
const Sign = 0xA5

// The kinds of a page's entry.
const (
	Free  = 0
	Small = 1
	Large = 2
	Tail  = 3
)

// The states of a page's entry.
const (
	Idle  = 0
	Owned = 1
	Busy  = 2
)

// Sizes is how many classes of sizes there are.
const Sizes = 8

// Head is an object's header.
type Head struct {
	Class int // of api.Fields; else 0
	Kind  int
	Len   int // words behind the header
}

// Entry is a page's entry.
type Entry struct {
	Kind  int
	Class int // Small: of sizes; Large: its pages; Tail: how many pages behind the first one
	State int
	Owner int
	Cycle int // by which cycle it was swept last
}

// within: is n from low to high?
func within(n, low, high int) bool { return low <= n && n <= high }

// headWidths: of Kind, Class, Len, zeros and Sign in a header's word.
func headWidths() []int { return []int{8, 8, 8, 32, 8} }

// entryWidths: of Kind, Class, State, Owner, zeros and Cycle in an entry's word.
func entryWidths() []int { return []int{2, 4, 2, 4, 4, 32} }

// valid: may there be an object with this header?
func (h Head) valid() bool {
	switch h.Kind {
	case api.Fields:
		return within(h.Class, 0, api.MaxClasses-1) && within(h.Len, 0, api.MaxFields)
	case api.Ints, api.Refs:
		return h.Class == 0 && within(h.Len, 0, api.MaxPayload)
	}
	return false
}

// Words: how many words an object has, its header among them (0: it is none).
func (h Head) Words() int {
	if !h.valid() {
		return 0
	}
	return 1 + h.Len
}

// EncodeHead: a header's word.
func EncodeHead(h Head) (uint64, api.Errno) {
	if !h.valid() {
		return 0, api.ErrForm
	}
	return word.Pack([]uint64{uint64(h.Kind), uint64(h.Class), uint64(h.Len), 0, Sign}, headWidths())
}

// DecodeHead: the header that has this word.
func DecodeHead(w uint64) (Head, api.Errno) {
	v, e := word.Unpack(w, headWidths())
	if e != api.OK {
		return Head{}, api.ErrForm
	}
	h := Head{Kind: int(v[0]), Class: int(v[1]), Len: int(v[2])}
	// Encoding knows which bits a header fixes: a word that it doesn't give back is none.
	if same, e := EncodeHead(h); e != api.OK || same != w {
		return Head{}, api.ErrForm
	}
	return h, api.OK
}

// holds: may there be objects that begin in the page?
func (e Entry) holds() bool { return e.Kind == Small || e.Kind == Large }

// stated: do the state and the owner fit each other and the kind?
func (e Entry) stated() bool {
	thread := within(e.Owner, 0, api.MaxThreads-1)
	switch e.State {
	case Idle:
		return e.Owner == 0
	case Owned:
		return e.Kind == Small && thread
	case Busy:
		return e.holds() && (thread || e.Owner == api.CollectorID)
	}
	return false
}

// valid: may a page have this entry?
func (e Entry) valid() bool {
	if !within(e.Cycle, 0, api.MaxCycle) || !e.stated() {
		return false
	}
	switch e.Kind {
	case Free:
		return e == Entry{}
	case Small:
		return within(e.Class, 0, Sizes-1)
	case Large:
		return within(e.Class, 1, api.MaxRun)
	case Tail:
		return within(e.Class, 1, api.MaxRun-1) && e.Cycle == 0
	}
	return false
}

// EncodeEntry: an entry's word.
func EncodeEntry(e Entry) (uint64, api.Errno) {
	if !e.valid() {
		return 0, api.ErrForm
	}
	values := []uint64{uint64(e.Kind), uint64(e.Class), uint64(e.State), uint64(e.Owner), 0, uint64(e.Cycle)}
	return word.Pack(values, entryWidths())
}

// DecodeEntry: the entry that has this word.
func DecodeEntry(w uint64) (Entry, api.Errno) {
	v, err := word.Unpack(w, entryWidths())
	if err != api.OK {
		return Entry{}, api.ErrForm
	}
	e := Entry{Kind: int(v[0]), Class: int(v[1]), State: int(v[2]), Owner: int(v[3]), Cycle: int(v[5])}
	// As with headers: bits that no entry has are lost on the way back.
	if same, err := EncodeEntry(e); err != api.OK || same != w {
		return Entry{}, api.ErrForm
	}
	return e, api.OK
}

// Due: must a page be swept ahead of being used, in the cycle that is named? (Not, if a later one has swept it.)
func (e Entry) Due(cycle int) bool {
	return e.valid() && e.holds() && e.State == Idle && e.Cycle < cycle
}

// Ready: may a page be taken without being swept, for objects of a class of sizes?
func (e Entry) Ready(class, cycle int) bool {
	return e.valid() && e.Kind == Small && e.State == Idle && e.Class == class && e.Cycle == cycle
}

// Taken: the entry of a page that somebody has.
func (e Entry) Taken(state, owner int) (Entry, api.Errno) {
	taken := e
	taken.State, taken.Owner = state, owner
	if !e.valid() || !taken.valid() {
		return Entry{}, api.ErrForm
	}
	return taken, api.OK
}

// Given: the entry of a page that nobody has any longer, swept by that cycle.
func (e Entry) Given(cycle int) (Entry, api.Errno) {
	given := Entry{Kind: e.Kind, Class: e.Class, State: Idle, Owner: 0, Cycle: cycle}
	if !e.holds() || !e.valid() || !given.valid() {
		return Entry{}, api.ErrForm
	}
	return given, api.OK
}
