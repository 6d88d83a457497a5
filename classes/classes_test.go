package classes_test

import (
	"math"
	"slices"
	"strconv"
	"strings"
	"testing"

	"windrow/api"
	"windrow/classes"
	"windrow/header"
)

// table: the table of classes of which none is wrong.
func table(t *testing.T, l []api.Class) *classes.Table {
	t.Helper()
	made, at, e := classes.New(l)
	if made == nil || at != 0 || e != api.OK {
		t.Fatalf("New(%+v) = %v, %d, %d", l, made, at, e)
	}
	return made
}

func field(name string, kind int) api.Field { return api.Field{Name: name, Type: kind} }

func class(name string, fields ...api.Field) api.Class {
	return api.Class{Name: name, Fields: fields}
}

// someFields: n fields of which the k-th is a reference if bit k of refs is 1.
func someFields(n int, refs uint) []api.Field {
	var l []api.Field
	for k := range n {
		kind := api.Int
		if refs>>k&1 == 1 {
			kind = api.Ref
		}
		l = append(l, field("f"+strconv.Itoa(k), kind))
	}
	return l
}

// someClasses: n classes with fields of both types, the one with the number k has k of them, and at most 15.
func someClasses(n int) []api.Class {
	var l []api.Class
	for k := range n {
		l = append(l, class("c"+strconv.Itoa(k), someFields(min(k, 15), 0x2D5B^uint(k))...))
	}
	return l
}

// lists: lists of classes of which none is wrong.
func lists() [][]api.Class {
	node := class("node", field("next", api.Ref), field("n", api.Int))
	return [][]api.Class{
		nil,
		{class("a")},
		{node},
		{class("b"), node},
		{node, class("a", field("node", api.Ref), field("a", api.Int), field("next", api.Int))},
		{class("Node", field("N", api.Int), field("n", api.Ref)), node},
		{class("x", someFields(15, 0)...), class("y", someFields(15, 0x7FFF)...), class("z", someFields(15, 0x4001)...)},
		someClasses(16),
	}
}

// numbers: such as classes, fields, kinds and lengths have, what lies beside, and such as are the same within some bits.
func numbers() []int {
	l := []int{math.MinInt, math.MinInt + 1, -1 << 32, -256, -255, 254, 255, 256, 257, 258, 1 << 32, 1<<32 + 1, 1<<32 + 2, math.MaxInt - 1, math.MaxInt}
	for n := -3; n <= 20; n++ {
		l = append(l, n)
	}
	return l
}

func TestExample(t *testing.T) {
	node := table(t, []api.Class{class("node", field("next", api.Ref), field("n", api.Int))})
	if h, e := node.Head(0); h != (header.Head{Class: 0, Kind: api.Fields, Len: 2}) || e != api.OK {
		t.Errorf("Head(0) = %+v, %d", h, e)
	}
	if l := slices.Collect(node.Pointers(header.Head{Kind: api.Fields, Len: 2})); !slices.Equal(l, []int{0}) {
		t.Error("Pointers", l)
	}
	if !node.IsRef(header.Head{Kind: api.Refs, Len: 3}, 2) || node.IsRef(header.Head{Kind: api.Fields, Len: 3}, 0) {
		t.Error("IsRef")
	}
	if made, at, e := classes.New([]api.Class{class("a", field("x", api.Int), field("x", api.Ref))}); made != nil || at != 0 || e != api.ErrTwice {
		t.Error("New", made, at, e)
	}
}

const (
	letters = "abcdefghijklmnopqrstuvwxyzABCDEFGHIJKLMNOPQRSTUVWXYZ"
	later   = letters + "0123456789_"
)

// isName: as the chapter says it, a byte looked for among those that may be.
func isName(s string) bool {
	if s == "" || len(s) > 16 || strings.IndexByte(letters, s[0]) < 0 {
		return false
	}
	for i := range len(s) {
		if strings.IndexByte(later, s[i]) < 0 {
			return false
		}
	}
	return true
}

// P10.1: each byte in each place of names of each length.
func TestIsName(t *testing.T) {
	for n := range 20 {
		for _, of := range []string{"a", "Z", "a9", "b_", "zA0_"} {
			s := []byte(strings.Repeat(of, 20)[:n])
			if classes.IsName(string(s)) != (1 <= n && n <= 16) {
				t.Errorf("IsName(%q) = %v", s, classes.IsName(string(s)))
			}
			for at := range s {
				for b := range 256 {
					was := s[at]
					s[at] = byte(b)
					if got := classes.IsName(string(s)); got != isName(string(s)) {
						t.Errorf("IsName(%q) = %v", s, got)
					}
					s[at] = was
				}
			}
		}
	}
}

func TestNames(t *testing.T) {
	for _, s := range []string{"a", "z", "A", "Z", "a0", "a_", "a__", "x9_Y", "class", "int", "abcdefghijklmnop", "A123456789_12345"} {
		if !classes.IsName(s) {
			t.Errorf("IsName(%q) is false", s)
		}
	}
	for _, s := range []string{"", "0", "9a", "_", "_a", "abcdefghijklmnopq", " a", "a ", "a\n", "a\x00", "a-b", "a.b", "a:int", "é", "aé", "ａ", "Ω", "a\xff", "\xe1", "aa\u0301", "[", "`", "{", "@", strings.Repeat("a", 1<<16)} {
		if classes.IsName(s) {
			t.Errorf("IsName(%q) is true", s)
		}
	}
}

// wrong: the index and the error that the chapter gives for a list, by looking at each thing in the order of its words.
func wrong(l []api.Class) (int, api.Errno) {
	if len(l) > 16 {
		return 0, api.ErrBig
	}
	for i, c := range l {
		if !isName(c.Name) {
			return i, api.ErrName
		}
		for _, earlier := range l[:i] {
			if earlier.Name == c.Name {
				return i, api.ErrTwice
			}
		}
		if len(c.Fields) > 15 {
			return i, api.ErrBig
		}
		for k, f := range c.Fields {
			if !isName(f.Name) {
				return i, api.ErrName
			}
			for _, earlier := range c.Fields[:k] {
				if earlier.Name == f.Name {
					return i, api.ErrTwice
				}
			}
			if f.Type != 1 && f.Type != 2 {
				return i, api.ErrType
			}
		}
	}
	return 0, api.OK
}

// P10.1: each error alone, and which one comes first where there are several.
func TestErrors(t *testing.T) {
	i, r := field("i", api.Int), field("r", api.Ref)
	known := []struct {
		name string
		l    []api.Class
		at   int
		e    api.Errno
	}{
		{"too many classes", someClasses(17), 0, api.ErrBig},
		{"too many, and all without names", make([]api.Class, 17), 0, api.ErrBig},
		{"too many, and one wrong", append([]api.Class{class("a"), class("a")}, someClasses(15)...), 0, api.ErrBig},
		{"no name", []api.Class{class("")}, 0, api.ErrName},
		{"the last of 16 without a name", append(someClasses(15), class("")), 15, api.ErrName},
		{"no name", []api.Class{class("a"), class("1a")}, 1, api.ErrName},
		{"a name too long", []api.Class{class("abcdefghijklmnop"), class("abcdefghijklmnopq")}, 1, api.ErrName},
		{"twice no name", []api.Class{class("_"), class("_")}, 0, api.ErrName},
		{"no name and too many fields", []api.Class{class("_", someFields(16, 0)...)}, 0, api.ErrName},
		{"twice", []api.Class{class("a"), class("b"), class("a")}, 2, api.ErrTwice},
		{"the last of 16 twice", append(someClasses(15), class("c0")), 15, api.ErrTwice},
		{"twice and too many fields", []api.Class{class("a"), class("a", someFields(16, 0)...)}, 1, api.ErrTwice},
		{"twice, behind a wrong field", []api.Class{class("a", field("", 1)), class("a")}, 0, api.ErrName},
		{"too many fields", []api.Class{class("a", someFields(16, 5)...)}, 0, api.ErrBig},
		{"too many fields, all wrong", []api.Class{class("a"), class("b", make([]api.Field, 16)...)}, 1, api.ErrBig},
		{"a field without a name", []api.Class{class("a", i, field("", api.Int))}, 0, api.ErrName},
		{"a field without a name or a type", []api.Class{class("a", field("-", 7))}, 0, api.ErrName},
		{"a field twice", []api.Class{class("a"), class("b", i, r, i)}, 1, api.ErrTwice},
		{"a field twice, and of no type", []api.Class{class("a", i, field("i", 0))}, 0, api.ErrTwice},
		{"a field of no type", []api.Class{class("a", i, field("x", api.None))}, 0, api.ErrType},
		{"a field of type 3", []api.Class{class("a", field("x", 3))}, 0, api.ErrType},
		{"a field of type -1", []api.Class{class("a", field("x", -1))}, 0, api.ErrType},
		{"a field of a type whose low bits are those of one", []api.Class{class("a", field("x", 1<<32+1))}, 0, api.ErrType},
		{"no type ahead of no name", []api.Class{class("a", field("x", 0), field("", 1))}, 0, api.ErrType},
		{"no name ahead of no type", []api.Class{class("a", field("", 1), field("x", 0))}, 0, api.ErrName},
		{"twice ahead of no type", []api.Class{class("a", i, i, field("x", 0))}, 0, api.ErrTwice},
		{"a field ahead of the next class", []api.Class{class("a"), class("b", field("x", 0)), class("")}, 1, api.ErrType},
		{"a class ahead of the next one's field", []api.Class{class("a"), class("a"), class("b", field("x", 0))}, 1, api.ErrTwice},
	}
	for _, k := range known {
		made, at, e := classes.New(k.l)
		if made != nil || at != k.at || e != k.e {
			t.Errorf("%s: %v, %d, %d, not %d, %d", k.name, made, at, e, k.at, k.e)
		}
		if at, e := wrong(k.l); at != k.at || e != k.e {
			t.Errorf("%s: the tests' own words say %d, %d", k.name, at, e)
		}
	}
	for _, l := range lists() {
		table(t, l)
	}
}

// seed makes numbers without a pattern, the same in each run.
type seed uint64

func (s *seed) below(n int) int {
	x := *s
	x ^= x << 13
	x ^= x >> 7
	x ^= x << 17
	*s = x
	return int(uint64(x) % uint64(n))
}

// name: seldom none, and one of many or of few, so that some come twice.
func (s *seed) name(many int) string {
	if s.below(60) == 0 {
		return []string{"", "0", "_x", "a b", "abcdefghijklmnopq"}[s.below(5)]
	}
	return string(letters[s.below(52)]) + strconv.Itoa(s.below(many))
}

// list: classes of which often one is wrong.
func (s *seed) list() []api.Class {
	many := 2 + s.below(50)
	var l []api.Class
	for range s.below(6) * (1 + s.below(4)) {
		c := class(s.name(many))
		for range s.below(5) * (1 + s.below(5)) {
			kind := 1 + s.below(2)
			if s.below(60) == 0 {
				kind = s.below(9) - 4
			}
			c.Fields = append(c.Fields, field(s.name(many), kind))
		}
		l = append(l, c)
	}
	return l
}

// P10.1: many lists, held against the chapter's words; those that are right also in all that the table answers.
func TestManyLists(t *testing.T) {
	random := seed(88172645463325252)
	seen := map[api.Errno]int{}
	for range 6000 {
		l := random.list()
		wantAt, wantE := wrong(l)
		made, at, e := classes.New(l)
		if at != wantAt || e != wantE || (made == nil) != (e != api.OK) {
			t.Fatalf("New(%+v) = %v, %d, %d, not %d, %d", l, made, at, e, wantAt, wantE)
		}
		seen[e]++
		if e == api.OK {
			checkTable(t, made, l)
		}
	}
	for _, e := range []api.Errno{api.OK, api.ErrBig, api.ErrName, api.ErrTwice, api.ErrType} {
		if seen[e] < 50 {
			t.Error("error", e, "was hardly tried:", seen[e])
		}
	}
}

// P10.1: all that a table answers.
func TestTables(t *testing.T) {
	for _, l := range lists() {
		checkTable(t, table(t, l), l)
	}
	checkTable(t, nil, nil)
	checkTable(t, &classes.Table{}, nil)
}

func checkTable(t *testing.T, made *classes.Table, l []api.Class) {
	t.Helper()
	if made.Count() != len(l) {
		t.Fatalf("Count() = %d of %+v", made.Count(), l)
	}
	for _, n := range numbers() {
		if n < 0 || n >= len(l) {
			checkNoClass(t, made, n)
		}
	}
	for n, c := range l {
		checkClass(t, made, n, c)
		if got, e := made.Find(c.Name); got != n || e != api.OK {
			t.Fatalf("Find(%q) = %d, %d in %+v", c.Name, got, e, l)
		}
	}
	for _, s := range []string{"", "_", "0", "nosuch", "NODE", "c00", "next", "abcdefghijklmnopq"} {
		if got, e := made.Find(s); got != 0 || e != api.ErrClass {
			t.Fatalf("Find(%q) = %d, %d in %+v", s, got, e, l)
		}
	}
}

func checkNoClass(t *testing.T, made *classes.Table, n int) {
	t.Helper()
	if c, e := made.Class(n); c.Name != "" || len(c.Fields) != 0 || e != api.ErrClass {
		t.Fatalf("Class(%d) = %+v, %d", n, c, e)
	}
	if h, e := made.Head(n); h != (header.Head{}) || e != api.ErrClass {
		t.Fatalf("Head(%d) = %+v, %d", n, h, e)
	}
	for _, s := range []string{"", "n", "f0"} {
		if got, e := made.Field(n, s); got != 0 || e != api.ErrClass {
			t.Fatalf("Field(%d, %q) = %d, %d", n, s, got, e)
		}
	}
	for _, i := range []int{-1, 0, 1, 15} {
		if got, e := made.Type(n, i); got != 0 || e != api.ErrClass {
			t.Fatalf("Type(%d, %d) = %d, %d", n, i, got, e)
		}
	}
}

func checkClass(t *testing.T, made *classes.Table, n int, c api.Class) {
	t.Helper()
	if got, e := made.Class(n); got.Name != c.Name || !slices.Equal(got.Fields, c.Fields) || e != api.OK {
		t.Fatalf("Class(%d) = %+v, %d, not %+v", n, got, e, c)
	}
	if h, e := made.Head(n); h != (header.Head{Class: n, Kind: 1, Len: len(c.Fields)}) || e != api.OK {
		t.Fatalf("Head(%d) = %+v, %d of %+v", n, h, e, c)
	}
	for i, f := range c.Fields {
		if got, e := made.Field(n, f.Name); got != i || e != api.OK {
			t.Fatalf("Field(%d, %q) = %d, %d", n, f.Name, got, e)
		}
	}
	for _, s := range []string{"", "_", "nosuch", "NEXT", "f15", "f00", "node"} {
		known := slices.ContainsFunc(c.Fields, func(f api.Field) bool { return f.Name == s })
		if got, e := made.Field(n, s); !known && (got != 0 || e != api.ErrField) {
			t.Fatalf("Field(%d, %q) = %d, %d", n, s, got, e)
		}
	}
	for _, i := range numbers() {
		got, e := made.Type(n, i)
		if i < 0 || i >= len(c.Fields) {
			if got != 0 || e != api.ErrField {
				t.Fatalf("Type(%d, %d) = %d, %d", n, i, got, e)
			}
		} else if got != c.Fields[i].Type || e != api.OK {
			t.Fatalf("Type(%d, %d) = %d, %d", n, i, got, e)
		}
	}
}

// fits: as the chapters 2 and 10 say it, for the classes of a list.
func fits(l []api.Class, h header.Head) bool {
	switch h.Kind {
	case 1:
		return h.Class >= 0 && h.Class < len(l) && h.Len == len(l[h.Class].Fields)
	case 2, 3:
		return h.Class == 0 && h.Len >= 0 && h.Len <= 255
	}
	return false
}

// pointers: the same of the words that are references.
func pointers(l []api.Class, h header.Head) []int {
	var at []int
	if !fits(l, h) {
		return nil
	}
	for i := range h.Len {
		if h.Kind == 3 || h.Kind == 1 && l[h.Class].Fields[i].Type == 2 {
			at = append(at, i)
		}
	}
	return at
}

// P10.1: headers of all kinds, classes and lengths, valid and not, of all tables.
func TestHeaders(t *testing.T) {
	for _, l := range lists() {
		checkHeaders(t, table(t, l), l)
	}
	checkHeaders(t, nil, nil)
	checkHeaders(t, &classes.Table{}, nil)
}

func checkHeaders(t *testing.T, made *classes.Table, l []api.Class) {
	t.Helper()
	for _, kind := range numbers() {
		for _, class := range numbers() {
			for _, length := range numbers() {
				checkHeader(t, made, l, header.Head{Class: class, Kind: kind, Len: length})
			}
		}
	}
	for length := range 260 {
		for kind := range 5 {
			checkHeader(t, made, l, header.Head{Kind: kind, Len: length})
		}
	}
}

func checkHeader(t *testing.T, made *classes.Table, l []api.Class, h header.Head) {
	t.Helper()
	if made.Fits(h) != fits(l, h) {
		t.Fatalf("Fits(%+v) = %v in %+v", h, made.Fits(h), l)
	}
	want := pointers(l, h)
	if got := slices.Collect(made.Pointers(h)); !slices.Equal(got, want) {
		t.Fatalf("Pointers(%+v) = %v, not %v, in %+v", h, got, want, l)
	}
	for _, i := range append(numbers(), h.Len-1, h.Len, h.Len+1) {
		if made.IsRef(h, i) != slices.Contains(want, i) {
			t.Fatalf("IsRef(%+v, %d) = %v in %+v", h, i, made.IsRef(h, i), l)
		}
	}
}

// P10.1 and Rule 8: the iterator may be stopped at each word, used again, and used within itself; it is never nil.
func TestPointersAgain(t *testing.T) {
	made := table(t, []api.Class{class("a", someFields(15, 0x5A5B)...)})
	for _, h := range []header.Head{{Kind: api.Fields, Len: 15}, {Kind: api.Refs, Len: 9}, {Kind: api.Refs, Len: 255}} {
		l := made.Pointers(h)
		want := slices.Collect(l)
		for n := range len(want) + 1 {
			var got []int
			for i := range l {
				if len(got) == n {
					break
				}
				got = append(got, i)
			}
			if !slices.Equal(got, want[:n]) {
				t.Errorf("%+v: the first %d are %v", h, n, got)
			}
		}
		outer := 0
		for i := range l {
			if inner := slices.Collect(l); i != want[outer] || !slices.Equal(inner, want) {
				t.Fatalf("%+v: within itself: %d, %v", h, i, inner)
			}
			outer++
		}
		if outer != len(want) {
			t.Errorf("%+v: %d of %d", h, outer, len(want))
		}
	}
	for _, h := range []header.Head{{}, {Kind: api.Ints, Len: 3}, {Kind: api.Fields, Len: 3}, {Kind: api.Refs, Len: math.MaxInt}, {Kind: api.Refs, Len: -1}} {
		if l := made.Pointers(h); l == nil || slices.Collect(l) != nil {
			t.Errorf("%+v: Pointers", h)
		}
	}
	var none *classes.Table
	if l := none.Pointers(header.Head{Kind: api.Refs, Len: 2}); l == nil || !slices.Equal(slices.Collect(l), []int{0, 1}) {
		t.Error("an array of references needs no class")
	}
}

// P10.1: two tables are the same if their classes are, in everything and in their order.
func TestSame(t *testing.T) {
	l := lists()
	l = append(l,
		[]api.Class{class("b")},
		[]api.Class{class("a"), class("b")},
		[]api.Class{class("b"), class("a")},
		[]api.Class{class("a", field("x", api.Int))},
		[]api.Class{class("a", field("x", api.Ref))},
		[]api.Class{class("a", field("y", api.Ref))},
		[]api.Class{class("a", field("x", api.Int), field("y", api.Ref))},
		[]api.Class{class("a", field("y", api.Ref), field("x", api.Int))},
		[]api.Class{class("A", field("x", api.Int))},
		someClasses(15),
	)
	for i, x := range l {
		for k, y := range l {
			a, b := table(t, x), table(t, y)
			if classes.Same(a, b) != (i == k) || !classes.Same(a, a) {
				t.Errorf("Same is %v of %+v and %+v", classes.Same(a, b), x, y)
			}
		}
	}
	empty := table(t, []api.Class{})
	for _, none := range []*classes.Table{nil, {}, empty} {
		if !classes.Same(none, nil) || !classes.Same(nil, none) || !classes.Same(none, empty) {
			t.Error("tables without classes are the same")
		}
		if classes.Same(none, table(t, l[1])) || classes.Same(table(t, l[1]), none) {
			t.Error("a table without classes is that of one class")
		}
	}
	listed := []api.Class{{Name: "a", Fields: []api.Field{}}}
	if !classes.Same(table(t, listed), table(t, []api.Class{class("a")})) {
		t.Error("an empty list of fields is a nil one (Rule 3)")
	}
}

// copied: the same classes in new memory.
func copied(l []api.Class) []api.Class {
	var own []api.Class
	for _, c := range l {
		own = append(own, api.Class{Name: c.Name, Fields: append([]api.Field(nil), c.Fields...)})
	}
	return own
}

// spoil changes all that a list holds, also in its spare capacity.
func spoil(l []api.Class) {
	l = l[:cap(l)]
	for i := range l {
		fields := l[i].Fields[:cap(l[i].Fields)]
		for k := range fields {
			fields[k] = field("spoilt", 9)
		}
		l[i].Name = "spoilt"
	}
}

// P10.2: what was handed in may change, and what was handed out, and no table does.
func TestMemory(t *testing.T) {
	for _, l := range lists() {
		given := copied(l)
		made := table(t, given)
		spoil(given)
		checkTable(t, made, l)
		for n, c := range l {
			one, _ := made.Class(n)
			two, _ := made.Class(n)
			spoil([]api.Class{one})
			if two.Name != c.Name || !slices.Equal(two.Fields, c.Fields) {
				t.Errorf("Class(%d) shares memory with another answer: %+v", n, two)
			}
		}
		checkTable(t, made, l)
		checkHeaders(t, made, l)
	}
}

// P10.2 and Rule 4: New leaves its list as it is, also behind its end.
func TestArgumentsStay(t *testing.T) {
	for _, l := range append(lists(), []api.Class{class("a"), class("a")}) {
		given := append(make([]api.Class, 0, len(l)+3), copied(l)...)
		for i, c := range given {
			given[i].Fields = append(make([]api.Field, 0, len(c.Fields)+3), c.Fields...)
		}
		made, _, _ := classes.New(given)
		for n := range given {
			c, _ := made.Class(n)
			_ = append(c.Fields, field("more", api.Int))
		}
		for i, c := range given[:cap(given)] {
			if i >= len(l) {
				if c.Name != "" || c.Fields != nil {
					t.Fatalf("New wrote behind the end of %+v", l)
				}
				continue
			}
			if c.Name != l[i].Name || !slices.Equal(c.Fields, l[i].Fields) {
				t.Fatalf("New changed %+v to %+v", l[i], c)
			}
			for _, f := range c.Fields[len(c.Fields):cap(c.Fields)] {
				if f != (api.Field{}) {
					t.Fatalf("New wrote behind the fields of %+v", l[i])
				}
			}
		}
	}
}

// Rule 5: tables know nothing of one another.
func TestTwoTables(t *testing.T) {
	one := table(t, []api.Class{class("a", field("x", api.Int))})
	two := table(t, []api.Class{class("b"), class("a", field("y", api.Ref), field("x", api.Ref))})
	if n, e := one.Find("b"); n != 0 || e != api.ErrClass {
		t.Error("Find(b)", n, e)
	}
	if n, e := one.Find("a"); n != 0 || e != api.OK {
		t.Error("Find(a)", n, e)
	}
	if n, e := two.Find("a"); n != 1 || e != api.OK {
		t.Error("Find(a)", n, e)
	}
	if n, e := two.Field(1, "x"); n != 1 || e != api.OK {
		t.Error("Field(1, x)", n, e)
	}
	if _, e := two.Field(0, "x"); e != api.ErrField {
		t.Error("Field(0, x)", e)
	}
}
