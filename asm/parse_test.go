package asm_test

import (
	"math/big"
	"regexp"
	"slices"
	"strconv"
	"strings"
	"testing"

	"windrow/api"
	"windrow/asm"
	"windrow/code"
)

// P14.1: each error of each kind of line, and which one comes first where there are several.
func TestParseErrors(t *testing.T) {
	known := []struct {
		text string
		line int
		e    api.Errno
	}{
		// class
		{"func f\nclass a\nend", 2, api.ErrSyntax},
		{"func f\nclass 1\nend", 2, api.ErrSyntax},
		{"class", 1, api.ErrSyntax},
		{"\n class ; a", 2, api.ErrSyntax},
		{"class 1a", 1, api.ErrName},
		{"class a:int", 1, api.ErrName},
		{"class abcdefghijklmnopq", 1, api.ErrName},
		{"class a\r", 1, api.ErrName},
		{"class _ x", 1, api.ErrName},
		{"class a\nclass b\nclass a", 3, api.ErrTwice},
		{"class a\nclass a x", 2, api.ErrTwice},
		{"class a x", 1, api.ErrSyntax},
		{"class a x:", 1, api.ErrSyntax},
		{"class a : int", 1, api.ErrSyntax},
		{"class a x :int", 1, api.ErrSyntax},
		{"class a x:Int", 1, api.ErrSyntax},
		{"class a x:none", 1, api.ErrSyntax},
		{"class a x:int:int", 1, api.ErrSyntax},
		{"class a x::int", 1, api.ErrSyntax},
		{"class a x:int,", 1, api.ErrSyntax},
		{"class a 1:no", 1, api.ErrSyntax},
		{"class a :int", 1, api.ErrName},
		{"class a 1:int", 1, api.ErrName},
		{"class a abcdefghijklmnopq:ref", 1, api.ErrName},
		{"class a x:int x:ref", 1, api.ErrTwice},
		{"class a x:int y:int x:int 1:int z", 1, api.ErrTwice},
		{"class a x:int 1:int x:int", 1, api.ErrName},
		{"class a x:int y 1:int x:int", 1, api.ErrSyntax},
		{"class a " + fields(16), 1, api.ErrBig},
		{"class a " + fields(16) + " f0:int", 1, api.ErrTwice},
		{"class a " + fields(16) + " x", 1, api.ErrSyntax},
		{"class a " + fields(20) + " 1:ref", 1, api.ErrName},
		{lines(16, "class c%") + "class a", 17, api.ErrBig},
		{lines(16, "class c%") + "class c3", 17, api.ErrTwice},
		{lines(16, "class c%") + "class a x:no", 17, api.ErrSyntax},
		{lines(16, "class c%") + "class a x:int x:int", 17, api.ErrTwice},
		// func
		{"func f\nfunc g\nend", 2, api.ErrSyntax},
		{"func f\nfunc f", 2, api.ErrSyntax},
		{"func", 1, api.ErrSyntax},
		{"func ->", 1, api.ErrName},
		{"func -> int", 1, api.ErrName},
		{"func 1", 1, api.ErrName},
		{"func f: x", 1, api.ErrName},
		{"func f\nend\nfunc f\nend", 3, api.ErrTwice},
		{"func f\nend\nfunc f x", 3, api.ErrTwice},
		{"func f ->", 1, api.ErrSyntax},
		{"func f -> x", 1, api.ErrSyntax},
		{"func f -> ->", 1, api.ErrSyntax},
		{"func f -> int int", 1, api.ErrSyntax},
		{"func f int -> none", 1, api.ErrSyntax},
		{"func f int x", 1, api.ErrSyntax},
		{"func f -> -> int", 1, api.ErrSyntax},
		{"func f int -> -> ref", 1, api.ErrSyntax},
		{"func f ->int", 1, api.ErrSyntax},
		{"func f a:int", 1, api.ErrSyntax},
		{"func f int,int", 1, api.ErrSyntax},
		{"func f" + strings.Repeat(" int", 7), 1, api.ErrBig},
		{"func f" + strings.Repeat(" int", 7) + " x", 1, api.ErrSyntax},
		{"func f" + strings.Repeat(" int", 7) + " -> int", 1, api.ErrBig},
		{"func f" + strings.Repeat(" int", 7) + " -> x", 1, api.ErrSyntax},
		{lines(16, "func f%\nend") + "func g", 33, api.ErrBig},
		{lines(16, "func f%\nend") + "func f15", 33, api.ErrTwice},
		{lines(16, "func f%\nend") + "func g x", 33, api.ErrSyntax},
		// locals
		{"locals int", 1, api.ErrSyntax},
		{"func f\nend\nlocals int", 3, api.ErrSyntax},
		{"func f\nlocals", 2, api.ErrSyntax},
		{"func f\nlocals int\nlocals", 3, api.ErrSyntax},
		{"func f\nlocals int\nlocals int", 3, api.ErrTwice},
		{"func f\nlocals int\nlocals x", 3, api.ErrTwice},
		{"func f\na:\nlocals int", 3, api.ErrTwice},
		{"func f\nadd\nlocals int", 3, api.ErrTwice},
		{"func f\nlocals x", 2, api.ErrSyntax},
		{"func f\nlocals int x:int", 2, api.ErrSyntax},
		{"func f\nlocals -> int", 2, api.ErrSyntax},
		{"func f\nlocals" + strings.Repeat(" ref", 17), 2, api.ErrBig},
		{"func f\nlocals" + strings.Repeat(" ref", 17) + " x", 2, api.ErrSyntax},
		// labels
		{"a:", 1, api.ErrSyntax},
		{"1:", 1, api.ErrSyntax},
		{"func f\nend\na:", 3, api.ErrSyntax},
		{"func f\n:", 2, api.ErrName},
		{"func f\n1:", 2, api.ErrName},
		{"func f\na::", 2, api.ErrName},
		{"func f\na:b:", 2, api.ErrName},
		{"func f\nabcdefghijklmnopq:", 2, api.ErrName},
		{"func f\na:\nb:\na:\nend", 4, api.ErrTwice},
		{"func f\na: add\nend", 2, api.ErrSyntax},
		{"func f\na: a:\nend", 2, api.ErrSyntax},
		{"func f\na :\nend", 2, api.ErrSyntax},
		{"func f\n: add\nend", 2, api.ErrSyntax},
		{"func f\na:b\nend", 2, api.ErrSyntax},
		// end
		{"end", 1, api.ErrSyntax},
		{"end x", 1, api.ErrSyntax},
		{"func f\nend\nend", 3, api.ErrSyntax},
		{"func f\nend f", 2, api.ErrSyntax},
		{"func f\njump a\nend f", 3, api.ErrSyntax},
		{"func f\njump a\nb:\njumpif b\njumpif c\nend", 2, api.ErrLabel},
		{"func f\na:\njump a\njumpif c\njump d\nend", 4, api.ErrLabel},
		{"func f\na:\nend\nfunc g\njump a\nend", 5, api.ErrLabel},
		{"func f\njump a\nend\nfunc g\na:\nend", 2, api.ErrLabel},
		{"func f\njump A\na:\nend", 2, api.ErrLabel},
		{"func f\njump a\nfoo\nend", 3, api.ErrSyntax},
		{"func f\njump a\nend\nfoo", 2, api.ErrLabel},
		{"func f\njump a\n", 4, api.ErrSyntax},
		{"func f\njump f\nend", 2, api.ErrLabel},
		// instructions
		{"add", 1, api.ErrSyntax},
		{"foo", 1, api.ErrSyntax},
		{"call f", 1, api.ErrSyntax},
		{"func f\nend\nadd", 3, api.ErrSyntax},
		{"func f\nfoo", 2, api.ErrSyntax},
		{"func f\nAdd", 2, api.ErrSyntax},
		{"func f\nadd\r\nend", 2, api.ErrSyntax},
		{"func f\nadd\vend", 2, api.ErrSyntax},
		{"func f\nadd\u00a0\nend", 2, api.ErrSyntax},
		{"func f\nadd 1\nend", 2, api.ErrSyntax},
		{"func f\nclass:int\nend", 2, api.ErrSyntax},
		{"func f\nconst\nend", 2, api.ErrSyntax},
		{"func f\nconst 1 2\nend", 2, api.ErrSyntax},
		{"func f\nget a\nend", 2, api.ErrSyntax},
		{"func f\nget\nend", 2, api.ErrSyntax},
		{"func f\nget a b c\nend", 2, api.ErrSyntax},
		{"func f\nget 1\nend", 2, api.ErrSyntax},
		{"func f\njump\nend", 2, api.ErrSyntax},
		{"func f\njump 1\nend", 2, api.ErrName},
		{"func f\njump a:\nend", 2, api.ErrName},
		{"func f\njumpif -\nend", 2, api.ErrName},
		{"func f\ncall 0\nend", 2, api.ErrName},
		{"func f\nspawn _\nend", 2, api.ErrName},
		{"func f\nnew abcdefghijklmnopq\nend", 2, api.ErrName},
		{"func f\nget 1 x\nend", 2, api.ErrName},
		{"func f\nput a 1\nend", 2, api.ErrName},
		{"func f\ncas a x:int\nend", 2, api.ErrName},
		// what refers to nothing
		{"func f\ncall g\nend", 2, api.ErrFunc},
		{"func f\nspawn F\nend", 2, api.ErrFunc},
		{"class a\nfunc f\nspawn a\nend", 3, api.ErrFunc},
		{"func f\nnew a\nend", 2, api.ErrClass},
		{"class a x:int\nfunc f\nnew x\nend", 3, api.ErrClass},
		{"func f\nget a x\nend", 2, api.ErrClass},
		{"class a x:int\nfunc f\nput a y\nend", 3, api.ErrField},
		{"class a x:int\nclass b y:int\nfunc f\ncas a y\nend", 4, api.ErrField},
		{"class a x:int\nfunc f\nadd\nget a x\nget a y\ncall g\nend", 5, api.ErrField},
		{"func f\nadd\ncall g\nget a y\nend", 3, api.ErrFunc},
		{"func f\ncall g\nend\nfunc h\nnew a\nend", 2, api.ErrFunc},
		{"func f\nadd\nnew a\nend\nfunc h\ncall g\nend", 3, api.ErrClass},
		{"func f\ncall g\njump a\nend", 3, api.ErrLabel},
		{"func f\ncall g\nend\nfoo", 4, api.ErrSyntax},
		{"func f\ncall g\nend\nfunc h\n", 6, api.ErrSyntax},
		// ends
		{"func f\n", 3, api.ErrSyntax},
		{"func f\n\n\n", 5, api.ErrSyntax},
		{"func f\nend\nfunc g ; end", 4, api.ErrSyntax},
		// words that stand for nothing
		{"-", 1, api.ErrSyntax},
		{"CLASS a", 1, api.ErrSyntax},
		{"\x00", 1, api.ErrSyntax},
		{"\xff", 1, api.ErrSyntax},
		{"\r", 1, api.ErrSyntax},
		{"\f\n", 1, api.ErrSyntax},
		{"\u2028", 1, api.ErrSyntax},
	}
	for _, k := range known {
		refused(t, k.text, k.line, k.e)
		if _, line, e := parse(k.text); line != k.line || e != k.e {
			t.Errorf("%q: the tests' own words say %d, %d", k.text, line, e)
		}
	}
}

// fields: so many fields of a class.
func fields(n int) string {
	l := make([]string, n)
	for k := range l {
		l[k] = "f" + strconv.Itoa(k) + []string{":int", ":ref"}[k%2]
	}
	return strings.Join(l, " ")
}

// lines: so many lines, with their number in place of %.
func lines(n int, line string) string {
	var b strings.Builder
	for k := range n {
		b.WriteString(strings.ReplaceAll(line, "%", strconv.Itoa(k)) + "\n")
	}
	return b.String()
}

// P14.1: texts of which no line is wrong, though some look so.
func TestParseRight(t *testing.T) {
	known := []struct {
		text string
		p    api.Program
	}{
		{"\n\n \t\n;\n ; x\n", api.Program{}},
		{"class class class:int", api.Program{Classes: []api.Class{{Name: "class", Fields: []api.Field{{Name: "class", Type: 1}}}}}},
		{"class a;b x:int", api.Program{Classes: []api.Class{{Name: "a"}}}},
		{"class int int:ref ref:int", api.Program{Classes: []api.Class{{Name: "int", Fields: []api.Field{{Name: "int", Type: 2}, {Name: "ref", Type: 1}}}}}},
		{"class a x:int X:int\nclass A x:int", api.Program{Classes: []api.Class{
			{Name: "a", Fields: []api.Field{{Name: "x", Type: 1}, {Name: "X", Type: 1}}}, {Name: "A", Fields: []api.Field{{Name: "x", Type: 1}}}}}},
		{"class a\nfunc a\nend", api.Program{Classes: []api.Class{{Name: "a"}}, Funcs: []api.Func{{Name: "a"}}}},
		{"func func\nend\nfunc end\nend\nfunc add ref -> ref;\nend ; x", api.Program{Funcs: []api.Func{{Name: "func"}, {Name: "end"}, {Name: "add", Params: []int{2}, Result: 2}}}},
		{"func f\nlocals int;ref\nend", api.Program{Funcs: []api.Func{{Name: "f", Locals: []int{1}}}}},
		{"func f\nend:\njump end\nclass:\njump class\nfunc:\nlocals:\njump locals\nadd:\njump add\nend", api.Program{Funcs: []api.Func{{Name: "f", Code: []api.Ins{
			{Op: 18}, {Op: 18, A: 1}, {Op: 18, A: 2}, {Op: 18, A: 3}}}}}},
		{"func f\na:\nb:\nadd\nc:\njump a\njumpif b\njump c\njump d\nd:\nend", api.Program{Funcs: []api.Func{{Name: "f", Code: []api.Ins{
			{Op: 8}, {Op: 18}, {Op: 19}, {Op: 18, A: 1}, {Op: 18, A: 5}}}}}},
		{"func f\na:\njump a\nend\nfunc g\nadd\na:\njump a\nend", api.Program{Funcs: []api.Func{
			{Name: "f", Code: []api.Ins{{Op: 18}}}, {Name: "g", Code: []api.Ins{{Op: 8}, {Op: 18, A: 1}}}}}},
		{"func f\ncall g\nspawn f\nnew b\nget b y\nend\nclass a y:int\nfunc g\nend\nclass b x:int y:ref", api.Program{
			Classes: []api.Class{{Name: "a", Fields: []api.Field{{Name: "y", Type: 1}}}, {Name: "b", Fields: []api.Field{{Name: "x", Type: 1}, {Name: "y", Type: 2}}}},
			Funcs:   []api.Func{{Name: "f", Code: []api.Ins{{Op: 20, A: 1}, {Op: 35}, {Op: 22, A: 1}, {Op: 25, A: 1, B: 1}}}, {Name: "g"}}}},
		{"func f\nconst 5;6\nend", api.Program{Funcs: []api.Func{{Name: "f", Code: []api.Ins{{Op: 1, A: 5}}}}}},
	}
	for _, k := range known {
		if got := parsed(t, k.text); !code.Equal(got, k.p) {
			t.Errorf("Parse(%q) = %+v, not %+v", k.text, got, k.p)
		}
		checkParse(t, k.text)
	}
}

// P14.1: each instruction with each number of further words.
func TestParseOperands(t *testing.T) {
	for op := 1; op <= code.Ops; op++ {
		for n := range 5 {
			for _, word := range []string{"a", "f", "0", "1", "-1", "x:", "b"} {
				text := "class a a:int\nfunc f\na:\n" + code.Name(op) + strings.Repeat(" "+word, n) + "\nend"
				_, line, e := asm.Parse(text)
				if n != code.Operands(op) && (line != 4 || e != api.ErrSyntax) {
					t.Errorf("%q: %d, %d", text, line, e)
				}
				checkParse(t, text)
			}
		}
	}
}

// P14.1: words that are numbers, and such as are none.
func TestParseNumbers(t *testing.T) {
	right := []string{"0", "1", "9", "10", "2147483646", "2147483647"}
	anyway := []string{"-1", "-9", "-10", "2147483648", "-2147483648", "4294967296", "4294967297", "9223372036854775807", "-9223372036854775807", "-9223372036854775808"}
	wrong := []string{
		"-0", "00", "01", "-01", "+1", "+0", "--1", "-", "1_000", "0x1", "0b1", "0o7", "1e3", "1.0", ".", "a", "1a", "a1", "\"1\"", "1,", "١", "１", "∞",
		"9223372036854775808", "-9223372036854775809", "18446744073709551615", "18446744073709551616", "99999999999999999999", strings.Repeat("9", 400), "0" + strings.Repeat("0", 40),
	}
	for _, name := range []string{"const", "load", "store", "global", "setglobal"} {
		try := func(word string, fine bool) {
			text := "func f\n" + name + " " + word + "\nend"
			if !fine {
				refused(t, text, 2, api.ErrSyntax)
				return
			}
			n, _ := strconv.ParseInt(word, 10, 64)
			if got := parsed(t, text); got.Funcs[0].Code[0] != (api.Ins{Op: code.Find(name), A: n}) {
				t.Errorf("%q: %+v", text, got)
			}
		}
		for _, word := range right {
			try(word, true)
		}
		for _, word := range anyway {
			try(word, name == "const")
		}
		for _, word := range wrong {
			try(word, false)
		}
	}
}

// P14.1: each count at its limit and one above it, and texts of the greatest length.
func TestParseLimits(t *testing.T) {
	known := []struct {
		name string
		most int
		text func(n int) string
	}{
		{"classes", 16, func(n int) string { return lines(n, "class c%") }},
		{"fields", 15, func(n int) string { return "class a " + fields(n) }},
		{"functions", 16, func(n int) string { return lines(n, "func f%\nend") }},
		{"parameters", 6, func(n int) string { return "func f" + strings.Repeat(" ref", n) + "\nend" }},
		{"parameters and a result", 6, func(n int) string { return "func f" + strings.Repeat(" int", n) + " -> int\nend" }},
		{"other locals", 16, func(n int) string {
			if n == 0 {
				return ""
			}
			return "func f" + strings.Repeat(" int", 6) + "\nlocals" + strings.Repeat(" ref", n) + "\nend"
		}},
		{"instructions", 256, func(n int) string { return "func f\n" + lines(n, "add") + "jumped:\nend" }},
	}
	for _, k := range known {
		for n := range 2*k.most + 3 {
			_, _, e := asm.Parse(k.text(n))
			if n <= k.most && e != api.OK || n > k.most && e != api.ErrBig {
				t.Errorf("%d %s: %d", n, k.name, e)
			}
			checkParse(t, k.text(n))
		}
	}
	for _, text := range []string{
		"func f\n" + lines(256, "add") + "jump a", "func f\n" + lines(256, "add") + "jump 1", "func f\n" + lines(256, "add") + "const -0",
		"func f\n" + lines(256, "add") + "add 1", "func f\n" + lines(255, "add") + "jump a\na:\nend", "func f\n" + lines(256, "add") + "end\nfunc g\n" + lines(256, "a%:\nnew c") + "end",
	} {
		checkParse(t, text)
	}
	for _, n := range []int{65534, 65535, 65536, 65537, 65538, 1 << 20} {
		for _, fill := range []string{" ", "\n", ";", "x", "\xff"} {
			text := "class a\n" + strings.Repeat(fill, n-8)
			if _, line, e := asm.Parse(text); n > 65536 && (line != 0 || e != api.ErrBig) {
				t.Errorf("%d bytes: %d, %d", n, line, e)
			}
			checkParse(t, text)
		}
	}
}

// wrongLine is an error of a text, and where it is.
type wrongLine struct {
	line int
	e    api.Errno
}

var (
	aName   = regexp.MustCompile(`\A[a-zA-Z][a-zA-Z0-9_]{0,15}\z`)
	aNumber = regexp.MustCompile(`\A(0|-?[1-9][0-9]*)\z`)
	aType   = regexp.MustCompile(`\A(int|ref)\z`)
	aLabel  = regexp.MustCompile(`\A[^ \t]*:\z`)
)

// reading is a text that is parsed as the chapter says, by names until its last line is known.
type reading struct {
	line    int
	p       api.Program
	inside  bool
	labels  []string  // of the function, in the order of their lines
	targets []int     // what they are numbers of
	begun   bool      // it has other locals, a label or an instruction
	jumps   []mention // of the function
	refers  []mention // of all
}

type mention struct {
	line, fn, at int
	words        []string
}

func (r *reading) unless(fine bool, e api.Errno) {
	if !fine {
		panic(wrongLine{r.line, e})
	}
}

// parse: the program by the chapter's words, or its first error.
func parse(text string) (p api.Program, line int, e api.Errno) {
	if len(text) > 65536 {
		return api.Program{}, 0, api.ErrBig
	}
	defer func() {
		if caught := recover(); caught != nil {
			wrong := caught.(wrongLine)
			p, line, e = api.Program{}, wrong.line, wrong.e
		}
	}()
	r := &reading{}
	comment := regexp.MustCompile(`;[^\n]*`)
	for k, line := range strings.Split(comment.ReplaceAllString(text, ""), "\n") {
		r.line = k + 1
		words := strings.Split(strings.ReplaceAll(line, "\t", " "), " ")
		words = slices.DeleteFunc(words, func(w string) bool { return w == "" })
		if len(words) > 0 {
			r.take(words)
		}
	}
	r.line++
	r.unless(!r.inside, api.ErrSyntax)
	r.last()
	return r.p, 0, api.OK
}

func (r *reading) take(words []string) {
	switch {
	case words[0] == "class":
		r.class(words)
	case words[0] == "func":
		r.function(words)
	case words[0] == "locals":
		r.unless(r.inside && len(words) > 1, api.ErrSyntax)
		r.unless(!r.begun, api.ErrTwice)
		f := &r.p.Funcs[len(r.p.Funcs)-1]
		f.Locals = r.types(words[1:])
		r.unless(len(f.Locals) <= 16, api.ErrBig)
		r.begun = true
	case words[0] == "end":
		r.unless(r.inside && len(words) == 1, api.ErrSyntax)
		f := &r.p.Funcs[len(r.p.Funcs)-1]
		for _, m := range r.jumps {
			at := slices.Index(r.labels, m.words[0])
			if at < 0 {
				panic(wrongLine{m.line, api.ErrLabel})
			}
			f.Code[m.at].A = int64(r.targets[at])
		}
		r.inside = false
	case len(words) == 1 && aLabel.MatchString(words[0]):
		r.unless(r.inside, api.ErrSyntax)
		name := words[0][:len(words[0])-1]
		r.unless(aName.MatchString(name), api.ErrName)
		r.unless(!slices.Contains(r.labels, name), api.ErrTwice)
		r.labels, r.targets = append(r.labels, name), append(r.targets, len(r.p.Funcs[len(r.p.Funcs)-1].Code))
		r.begun = true
	default:
		r.instruction(words)
	}
}

func (r *reading) class(words []string) {
	r.unless(!r.inside && len(words) > 1, api.ErrSyntax)
	c := api.Class{Name: words[1]}
	r.unless(aName.MatchString(c.Name), api.ErrName)
	for _, earlier := range r.p.Classes {
		r.unless(earlier.Name != c.Name, api.ErrTwice)
	}
	for _, word := range words[2:] {
		parts := strings.SplitN(word, ":", 2)
		r.unless(len(parts) == 2 && aType.MatchString(parts[1]), api.ErrSyntax)
		r.unless(aName.MatchString(parts[0]), api.ErrName)
		for _, earlier := range c.Fields {
			r.unless(earlier.Name != parts[0], api.ErrTwice)
		}
		c.Fields = append(c.Fields, api.Field{Name: parts[0], Type: r.types(parts[1:])[0]})
	}
	r.unless(len(c.Fields) <= 15, api.ErrBig)
	r.p.Classes = append(r.p.Classes, c)
	r.unless(len(r.p.Classes) <= 16, api.ErrBig)
}

func (r *reading) types(words []string) []int {
	var l []int
	for _, word := range words {
		r.unless(aType.MatchString(word), api.ErrSyntax)
		l = append(l, slices.Index([]string{"", "int", "ref"}, word))
	}
	return l
}

func (r *reading) function(words []string) {
	r.unless(!r.inside && len(words) > 1, api.ErrSyntax)
	f := api.Func{Name: words[1]}
	r.unless(aName.MatchString(f.Name), api.ErrName)
	for _, earlier := range r.p.Funcs {
		r.unless(earlier.Name != f.Name, api.ErrTwice)
	}
	if words[len(words)-2] == "->" {
		f.Result = r.types(words[len(words)-1:])[0]
		words = words[:len(words)-2]
	}
	f.Params = r.types(words[2:])
	r.unless(len(f.Params) <= 6, api.ErrBig)
	r.p.Funcs = append(r.p.Funcs, f)
	r.unless(len(r.p.Funcs) <= 16, api.ErrBig)
	r.inside, r.begun, r.labels, r.targets, r.jumps = true, false, nil, nil, nil
}

func (r *reading) instruction(words []string) {
	r.unless(r.inside, api.ErrSyntax)
	i := api.Ins{Op: code.Find(words[0])}
	r.unless(i.Op > 0 && len(words) == 1+code.Operands(i.Op), api.ErrSyntax)
	fn := len(r.p.Funcs) - 1
	m := mention{r.line, fn, len(r.p.Funcs[fn].Code), words[1:]}
	switch words[0] {
	case "const", "load", "store", "global", "setglobal":
		r.unless(aNumber.MatchString(words[1]), api.ErrSyntax)
		n, _ := new(big.Int).SetString(words[1], 10)
		r.unless(n.IsInt64(), api.ErrSyntax)
		i.A = n.Int64()
		r.unless(words[0] == "const" || 0 <= i.A && i.A <= 2147483647, api.ErrSyntax)
	case "jump", "jumpif":
		r.unless(aName.MatchString(words[1]), api.ErrName)
		r.jumps = append(r.jumps, m)
	case "call", "spawn", "new", "get", "put", "cas":
		for _, word := range words[1:] {
			r.unless(aName.MatchString(word), api.ErrName)
		}
		r.refers = append(r.refers, m)
	}
	r.p.Funcs[fn].Code = append(r.p.Funcs[fn].Code, i)
	r.unless(len(r.p.Funcs[fn].Code) <= 256, api.ErrBig)
	r.begun = true
}

// last looks up what refers to functions, classes and fields.
func (r *reading) last() {
	for _, m := range r.refers {
		r.line = m.line
		i := &r.p.Funcs[m.fn].Code[m.at]
		if i.Op == code.Call || i.Op == code.Spawn {
			at := slices.IndexFunc(r.p.Funcs, func(f api.Func) bool { return f.Name == m.words[0] })
			r.unless(at >= 0, api.ErrFunc)
			i.A = int64(at)
			continue
		}
		at := slices.IndexFunc(r.p.Classes, func(c api.Class) bool { return c.Name == m.words[0] })
		r.unless(at >= 0, api.ErrClass)
		i.A = int64(at)
		if len(m.words) == 2 {
			field := slices.IndexFunc(r.p.Classes[at].Fields, func(f api.Field) bool { return f.Name == m.words[1] })
			r.unless(field >= 0, api.ErrField)
			i.B = int64(field)
		}
	}
}

// checkParse holds Parse against the chapter's words, and Print against Parse.
func checkParse(t *testing.T, text string) api.Errno {
	t.Helper()
	want, wantLine, wantE := parse(text)
	p, line, e := asm.Parse(text)
	if !code.Equal(p, want) || line != wantLine || e != wantE {
		t.Fatalf("Parse(%q) = %+v, %d, %d, not %+v, %d, %d", text, p, line, e, want, wantLine, wantE)
	}
	if e != api.OK {
		return e
	}
	again, printE := asm.Print(p)
	if len(textOf(p)) > 65536 {
		if again != "" || printE != api.ErrBig {
			t.Fatalf("Print(Parse(%q)) = %q, %d", text, again, printE)
		}
		return e
	}
	if back := parsed(t, again); printE != api.OK || !code.Equal(back, p) {
		t.Fatalf("Print(Parse(%q)) = %q, %d, which is parsed as %+v, not %+v", text, again, printE, back, p)
	}
	return e
}

// changedLine: with a word changed, left out, doubled or put in.
func (s *seed) changedLine(line string) string {
	pool := append(someNames(), "class", "func", "end", "locals", "->", "int", "ref", "x:int", "a:ref", "a:", "L0:", "L1:", ":", "0", "-1", "-0", "2147483648", "jump", "new", "get", "call", "1a", "", ";")
	words := strings.Fields(line)
	at := s.below(len(words) + 1)
	switch word := pool[s.below(len(pool))]; {
	case len(words) == 3 && s.below(2) == 0:
		words[2] = word
	case at == len(words):
		words = append(words, word)
	case s.below(4) == 0:
		words = slices.Delete(words, at, at+1)
	case s.below(3) == 0:
		words = slices.Insert(words, at, words[at])
	case s.below(3) == 0:
		words = slices.Insert(words, at, word)
	default:
		words[at] = word
	}
	return strings.Join(words, " ")
}

// changedText: with some lines changed, left out, doubled, or in another's place.
func (s *seed) changedText(text string) string {
	l := strings.Split(text, "\n")
	for range s.below(4) {
		at, other := s.below(len(l)), s.below(len(l))
		switch s.below(7) {
		case 0:
			l = slices.Delete(l, at, at+1)
			if len(l) == 0 {
				return ""
			}
		case 1:
			l = slices.Insert(l, at, l[other])
		case 2:
			l[at], l[other] = l[other], l[at]
		case 3:
			b := []byte(l[at])
			if len(b) > 0 {
				b[s.below(len(b))] = " \t:;-a0\r\xff\n"[s.below(10)]
			}
			l[at] = string(b)
		default:
			l[at] = s.changedLine(l[at])
		}
	}
	return strings.Join(l, "\n")
}

// P14.1 and P14.2: many texts, some with wrong lines, held against the chapter's words.
func TestParseMany(t *testing.T) {
	random := seed(1442695040888963407)
	seen := map[api.Errno]int{}
	for range 1500 {
		text := textOf(random.program())
		if len(text) > 2000 {
			continue
		}
		seen[checkParse(t, text)]++
		for range 40 {
			seen[checkParse(t, random.changedText(text))]++
		}
	}
	for range 100 {
		seen[checkParse(t, random.changedText(wholeText))]++
	}
	for _, e := range []api.Errno{api.OK, api.ErrSyntax, api.ErrName, api.ErrTwice, api.ErrBig, api.ErrLabel, api.ErrFunc, api.ErrClass, api.ErrField} {
		if seen[e] < 10 {
			t.Error("error", e, "was hardly tried:", seen[e])
		}
	}
}

// P14.1 and Rule 6: texts of bytes without a pattern.
func TestParseAny(t *testing.T) {
	random := seed(88172645463325252)
	for range 3000 {
		b := make([]byte, random.below(80))
		for i := range b {
			b[i] = byte(random.next())
			if random.below(2) == 0 {
				b[i] = "\n\n  \t;:->fuce"[random.below(13)]
			}
		}
		checkParse(t, string(b))
		checkParse(t, "func f\n"+string(b)+"\nend")
	}
}

// Rule 4 and Rule 5: two answers share no list, and know nothing of one another.
func TestParseMemory(t *testing.T) {
	one, two := parsed(t, wholeText), parsed(t, wholeText)
	spoil(one)
	if !code.Equal(two, wholeProgram()) {
		t.Errorf("two answers share memory: %+v", two)
	}
	for i := range two.Classes {
		spoil(api.Program{Classes: []api.Class{{Fields: two.Classes[i].Fields}}})
		two.Classes[i].Fields = wholeProgram().Classes[i].Fields
	}
	for i := range two.Funcs {
		f, own := &two.Funcs[i], wholeProgram().Funcs[i]
		spoil(api.Program{Funcs: []api.Func{{Params: f.Params}}})
		f.Params = own.Params
		spoil(api.Program{Funcs: []api.Func{{Locals: f.Locals}}})
		f.Locals = own.Locals
		if !code.Equal(api.Program{Funcs: []api.Func{*f}}, api.Program{Funcs: []api.Func{own}}) {
			t.Errorf("lists of function %d share memory", i)
		}
	}
	if !code.Equal(two, wholeProgram()) {
		t.Errorf("lists of one answer share memory: %+v", two)
	}
	refused(t, "func f\ncall main\nend", 2, api.ErrFunc)
	refused(t, "func f\nnew node\nend", 2, api.ErrClass)
	refused(t, "func f\njump L0\nend", 2, api.ErrLabel)
}

// spoil changes all that a program's lists hold, also in their spare capacity.
func spoil(p api.Program) {
	for _, c := range p.Classes {
		for k := range c.Fields[:cap(c.Fields)] {
			c.Fields[:cap(c.Fields)][k] = api.Field{Name: "spoilt", Type: 77}
		}
	}
	for _, f := range p.Funcs {
		for _, l := range [][]int{f.Params[:cap(f.Params)], f.Locals[:cap(f.Locals)]} {
			for k := range l {
				l[k] = 77
			}
		}
		for k := range f.Code[:cap(f.Code)] {
			f.Code[:cap(f.Code)][k] = api.Ins{Op: 77, A: 77, B: 77}
		}
	}
	clear(p.Classes[:cap(p.Classes)])
	clear(p.Funcs[:cap(p.Funcs)])
}
