package console_test

import (
	"reflect"
	"slices"
	"strconv"
	"strings"
	"testing"

	"windrow/api"
	"windrow/console"
)

// parsed holds a script's orders, line and error against what they should be.
func parsed(t *testing.T, text string, orders []console.Order, line int, e api.Errno) {
	t.Helper()
	got, at, failed := console.Parse(text)
	if at != line || failed != e || !slices.EqualFunc(got, orders, same) {
		t.Errorf("%.200q:\n%+v, %d in line %d, not\n%+v, %d in line %d", text, got, failed, at, orders, e, line)
	}
}

func same(a, b console.Order) bool {
	return a.Kind == b.Kind && a.Line == b.Line && slices.Equal(a.Nums, b.Nums) && a.Text == b.Text
}

// Each order, by its name, with as many numbers as it has.
func TestParse(t *testing.T) {
	for _, x := range []struct {
		text string
		want console.Order
	}{
		{"program\n.", console.Order{Kind: 1}},
		{"start 4 3 2 1", console.Order{Kind: 2, Nums: []int{4, 3, 2, 1}}},
		{"pick", console.Order{Kind: 3}},
		{"pick 0", console.Order{Kind: 3, Nums: []int{0}}},
		{"pick c", console.Order{Kind: 3, Nums: []int{6}}},
		{"pick 0 c 5 6 7 c 65536 c", console.Order{Kind: 3, Nums: []int{0, 6, 5, 6, 7, 6, 65536, 6}}},
		{"turns 7", console.Order{Kind: 4, Nums: []int{7}}},
		{"finish 9", console.Order{Kind: 5, Nums: []int{9}}},
		{"out", console.Order{Kind: 6}},
		{"threads", console.Order{Kind: 7}},
		{"heap", console.Order{Kind: 8}},
		{"globals", console.Order{Kind: 9}},
		{"state", console.Order{Kind: 10}},
		{"events 12", console.Order{Kind: 11, Nums: []int{12}}},
		{"again", console.Order{Kind: 12}},
		{"ask 5 15", console.Order{Kind: 13, Nums: []int{5, 15}}},
	} {
		x.want.Line = 1
		parsed(t, x.text, []console.Order{x.want}, 0, api.OK)
		parsed(t, x.text+"\n", []console.Order{x.want}, 0, api.OK)
		parsed(t, " \t\n"+x.text+"\nout", []console.Order{{x.want.Kind, 2, x.want.Nums, ""}, {6, 3 + strings.Count(x.text, "\n"), nil, ""}}, 0, api.OK)
	}
}

// The constants are the numbers of the chapter's table.
func TestKinds(t *testing.T) {
	kinds := []int{console.Program, console.Start, console.Pick, console.Turns, console.Finish, console.Out, console.Threads, console.Heap, console.Globals, console.State, console.Events, console.Again, console.Ask}
	if !slices.Equal(kinds, []int{1, 2, 3, 4, 5, 6, 7, 8, 9, 10, 11, 12, 13}) {
		t.Error(kinds)
	}
}

// Lines that are ignored, and white space.
func TestParseSpace(t *testing.T) {
	parsed(t, "", nil, 0, api.OK)
	parsed(t, "\n", nil, 0, api.OK)
	parsed(t, "\n \t \n\t\n#\n# out\n  #turns x\n\t# .\n#out", nil, 0, api.OK)
	parsed(t, "\t out\t \n\n # a\n \t ask\t\t3 \t4\t\n", []console.Order{{6, 1, nil, ""}, {13, 4, []int{3, 4}, ""}}, 0, api.OK)
	// What begins with # is a word like others behind the first one, and # within a word is nothing else.
	parsed(t, "out #", nil, 1, api.ErrSyntax)
	parsed(t, "turns 3 # three", nil, 1, api.ErrSyntax)
	parsed(t, "out#", nil, 1, api.ErrOp)
	// No other bytes separate words or lines, or are ignored.
	for _, space := range []string{"\r", "\v", "\f", "\x00", "\u00a0", "\u2003", "\x85", ";", ","} {
		parsed(t, "out\nturns 1"+space, []console.Order{{6, 1, nil, ""}}, 2, api.ErrSyntax)
		parsed(t, "out\nturns"+space+"1", []console.Order{{6, 1, nil, ""}}, 2, api.ErrOp)
		parsed(t, "out\n"+space, []console.Order{{6, 1, nil, ""}}, 2, api.ErrOp)
		parsed(t, "out\n"+space+"#", []console.Order{{6, 1, nil, ""}}, 2, api.ErrOp)
	}
}

// A program's text is the lines up to the period, as they stand.
func TestParseProgram(t *testing.T) {
	for _, lines := range [][]string{
		{}, {""}, {"", ""}, {"a"}, {"func main", " poll", "\treturn ; .", "end"}, {"# a", "", "out", "program"}, {" ."}, {". "}, {"\t.", "..", ".a", ". .", "#.", ".\r"}, {"a", ""}, {"", "a"}, {"\xff\x00"},
	} {
		body := strings.Join(lines, "\n")
		text := "program\n"
		for _, line := range lines {
			text += line + "\n"
		}
		behind := len(lines) + 3
		parsed(t, text+".", []console.Order{{1, 1, nil, body}}, 0, api.OK)
		parsed(t, text+".\n", []console.Order{{1, 1, nil, body}}, 0, api.OK)
		parsed(t, text+".\n\nstate\n", []console.Order{{1, 1, nil, body}, {10, behind + 1, nil, ""}}, 0, api.OK)
		parsed(t, "out\n\t program \n"+text[len("program\n"):]+".\nprogram\n.\nheap", []console.Order{{6, 1, nil, ""}, {1, 2, nil, body}, {1, behind + 1, nil, ""}, {8, behind + 3, nil, ""}}, 0, api.OK)
		parsed(t, text+".\n.", []console.Order{{1, 1, nil, body}}, behind, api.ErrOp)
		// Without the period, the last line is the empty one behind the last byte 10.
		parsed(t, text, nil, behind, api.ErrEnds)
		parsed(t, "out\n"+text, []console.Order{{6, 1, nil, ""}}, behind+1, api.ErrEnds)
		parsed(t, text+"a", nil, behind, api.ErrEnds)
		parsed(t, text+". ", nil, behind, api.ErrEnds)
	}
	parsed(t, "program", nil, 2, api.ErrEnds)
	parsed(t, "\n\nprogram", nil, 4, api.ErrEnds)
	parsed(t, "program 1\n.", nil, 1, api.ErrSyntax)
	parsed(t, "program .", nil, 1, api.ErrSyntax)
	parsed(t, "program main", nil, 1, api.ErrSyntax)
	parsed(t, ".", nil, 1, api.ErrOp)
}

// Numbers: digits, from 0 to 65536, without noughts in front.
func TestParseNumbers(t *testing.T) {
	for _, n := range []int{0, 1, 9, 10, 99, 100, 4096, 65535, 65536} {
		word := strconv.Itoa(n)
		parsed(t, "turns "+word, []console.Order{{4, 1, []int{n}, ""}}, 0, api.OK)
		parsed(t, "pick c "+word+" c", []console.Order{{3, 1, []int{6, n, 6}, ""}}, 0, api.OK)
	}
	for _, word := range []string{"65537", "65540", "99999", "100000", "655360", "4294967296", "18446744073709551616", "99999999999999999999999", "00", "01", "065536", "-0", "-1", "+1", "+0", "0x1", "1_0", "1e1", "1.0", ".1", "1.", "a", "cc", "C", "1c", "c1",
		"\u0661", "\uff11", "1\r", "1;", "\"1\"", "'1'", "\xff", "1\x00", "#"} {
		for _, form := range []string{"turns @", "finish @", "events @", "ask @ 0", "ask 0 @", "start @ 1 1 1", "start 1 1 1 @", "pick @", "pick 0 c @", "pick @ 1"} {
			parsed(t, "out\n"+strings.ReplaceAll(form, "@", word)+"\nout", []console.Order{{6, 1, nil, ""}}, 2, api.ErrSyntax)
		}
	}
	// Only a pick may be the collector's.
	for _, text := range []string{"turns c", "finish c", "events c", "ask c 0", "ask 0 c", "start c c c c", "out c", "program c\n."} {
		parsed(t, text, nil, 1, api.ErrSyntax)
	}
}

// Each order with too many numbers, and with too few.
func TestParseCounts(t *testing.T) {
	for name, n := range map[string]int{"program": 0, "start": 4, "turns": 1, "finish": 1, "out": 0, "threads": 0, "heap": 0, "globals": 0, "state": 0, "events": 1, "again": 0, "ask": 2} {
		for count := range 7 {
			if count == n {
				continue
			}
			parsed(t, "\n"+name+strings.Repeat(" 1", count), nil, 2, api.ErrSyntax)
			parsed(t, "heap\n"+name+strings.Repeat(" 1", count)+"\nwrong", []console.Order{{8, 1, nil, ""}}, 2, api.ErrSyntax)
		}
	}
	for _, count := range []int{0, 1, 2, 100, 30000} {
		parsed(t, "pick"+strings.Repeat(" c", count), []console.Order{{3, 1, slices.Repeat([]int{6}, count), ""}}, 0, api.OK)
	}
}

// Names that are no order's; the first wrong line is told, and no order behind it.
func TestParseWrong(t *testing.T) {
	for _, name := range []string{"Program", "OUT", "outs", "ou", "threads:", "0", "c", ".", "..", "poll", "func", "ask0", "end", "\xff", "\u00e4", "-", "picks", "quit"} {
		parsed(t, name, nil, 1, api.ErrOp)
		parsed(t, name+" 1 2", nil, 1, api.ErrOp)
		parsed(t, "out\n\n"+name+"\nturns\nprogram", []console.Order{{6, 1, nil, ""}}, 3, api.ErrOp)
	}
	parsed(t, "out\nturns\nwrong", []console.Order{{6, 1, nil, ""}}, 2, api.ErrSyntax)
	parsed(t, "wrong\nturns", nil, 1, api.ErrOp)
	parsed(t, "program 0\nwrong", nil, 1, api.ErrSyntax)
	parsed(t, "program\nwrong\nturns\n.\nwrong\nturns", []console.Order{{1, 1, nil, "wrong\nturns"}}, 5, api.ErrOp)
}

// A text of 65536 bytes is looked at, one of 65537 isn't.
func TestParseBig(t *testing.T) {
	for _, x := range []struct {
		line   string
		orders []console.Order
		e      api.Errno
	}{
		{"out\n", []console.Order{{6, 1, nil, ""}}, api.OK}, {"wrong\n", nil, api.ErrOp}, {"turns 1 1\n", nil, api.ErrSyntax},
	} {
		line := 0
		if x.e != api.OK {
			line = 1
		}
		for _, filling := range []string{"#", " ", "\n"} {
			text := x.line + strings.Repeat(filling, api.MaxText-len(x.line))
			parsed(t, text, x.orders, line, x.e)
			parsed(t, text+" ", nil, 0, api.ErrBig)
		}
	}
	text := "program\n" + strings.Repeat("a", api.MaxText-len("program\n\n.")) + "\n."
	parsed(t, text, []console.Order{{1, 1, nil, text[len("program\n") : len(text)-2]}}, 0, api.OK)
	parsed(t, text+"\n", nil, 0, api.ErrBig)
	text = strings.Repeat("\n", api.MaxText)
	parsed(t, text, nil, 0, api.OK)
	text = strings.Repeat("\n", api.MaxText-1) + "x"
	parsed(t, text, nil, api.MaxText, api.ErrOp)
}

// order: one without a pattern, and its lines.
func (s *seed) order() (console.Order, string) {
	names := []string{"program", "start", "pick", "turns", "finish", "out", "threads", "heap", "globals", "state", "events", "again", "ask"}
	counts := []int{0, 4, s.below(9), 1, 1, 0, 0, 0, 0, 0, 1, 0, 2}
	k := s.below(len(names))
	o := console.Order{Kind: k + 1}
	text := s.space(0) + names[k]
	for range counts[k] {
		n := s.below([]int{3, 8, 70, 65537}[s.below(4)])
		word := strconv.Itoa(n)
		if o.Kind == console.Pick && s.below(3) == 0 {
			n, word = 6, "c"
		}
		o.Nums = append(o.Nums, n)
		text += s.space(1) + word
	}
	text += s.space(0)
	if o.Kind == console.Program {
		var lines []string
		for range s.below(5) {
			lines = append(lines, s.space(0)+s.one("", "#", "out", "func main", " .", "; a", "program")+s.space(0))
		}
		o.Text = strings.Join(lines, "\n")
		text += "\n" + strings.Join(append(lines, "."), "\n")
	}
	return o, text
}

// space: white space, so much at least.
func (s *seed) space(least int) string {
	var text string
	for range least + s.below(3)*s.below(2) {
		text += s.one(" ", "\t")
	}
	return text
}

// P23.1: scripts without a pattern are parsed as what they were made of, up to a line that is wrong.
func TestParseMany(t *testing.T) {
	s := seed(2301)
	failed := 0
	for range 3000 {
		var lines []string
		var orders []console.Order
		line, e := 0, api.OK
		for range s.below(12) {
			at := 1 + strings.Count(strings.Join(lines, "\n"), "\n")
			if len(lines) > 0 {
				at++
			}
			switch s.below(8) {
			case 0:
				lines = append(lines, s.space(0)+s.one("", "#", "# out", "#turns"))
				continue
			case 1:
				if s.below(6) > 0 {
					continue
				}
				wrong := []string{"wrong", "turns", "turns c", "heap 1", "events 01", "ask 1 2 3", "."}
				n := s.below(len(wrong))
				lines = append(lines, s.space(0)+wrong[n]+s.space(0))
				if e == api.OK {
					line, e = at, api.ErrSyntax
					if n == 0 || n == 6 {
						e = api.ErrOp
					}
				}
				continue
			}
			o, text := s.order()
			o.Line = at
			lines = append(lines, text)
			if e == api.OK {
				orders = append(orders, o)
			}
		}
		if e != api.OK {
			failed++
		}
		parsed(t, strings.Join(lines, "\n")+s.one("", "\n", "\n\n"), orders, line, e)
	}
	if failed < 300 || failed > 2700 {
		t.Errorf("%d scripts are wrong", failed)
	}
}

func fill(l []int, n int) {
	for i := range l {
		l[i] = n
	}
}

// bytes: a text that is anything, mostly pieces of scripts.
func (s *seed) bytes() string {
	var text strings.Builder
	for range s.below(30) {
		switch s.below(8) {
		case 0:
			text.WriteByte(byte(s.below(256)))
		case 1, 2:
			text.WriteString(s.one("\n", " ", "\t", "\n.\n", "#", "\r"))
		case 3:
			text.WriteString(s.one("0", "1", "2", "3", "-1", "99999", "c", "1 1 1 1", "2 2 2 2"))
		default:
			text.WriteString(s.one("program\n", "func main\npoll\nreturn\nend\n.\n", "start ", "pick ", "turns ", "finish ", "out\n", "threads\n", "heap\n", "globals\n", "state\n", "events ", "again\n", "ask ", "func", "\nstart 1 1 1 1\n"))
		}
	}
	return text.String()
}

// P1: whatever a text is, Parse tells the same each time, orders that come one behind the other, and a line only with an error; and its lists are nobody else's.
func TestParseAnything(t *testing.T) {
	s := seed(2302)
	for range 20000 {
		text := s.bytes()
		orders, line, e := console.Parse(text)
		again, _, _ := console.Parse(text)
		if !reflect.DeepEqual(orders, again) || (e == api.OK) != (line == 0) || line > strings.Count(text, "\n")+2 {
			t.Fatalf("%q: %+v, %d in line %d", text, orders, e, line)
		}
		last := 0
		for n, o := range orders {
			if o.Line <= last || o.Line >= line && line > 0 || o.Kind < 1 || o.Kind > 13 || o.Text != "" && o.Kind != console.Program {
				t.Fatalf("%q: %+v", text, orders)
			}
			last = o.Line
			fill(o.Nums[:cap(o.Nums)], -1-n)
		}
		for n, o := range orders {
			if slices.ContainsFunc(o.Nums[:cap(o.Nums)], func(num int) bool { return num != -1-n }) {
				t.Fatalf("%q: orders share memory", text)
			}
		}
		if third, _, _ := console.Parse(text); !reflect.DeepEqual(third, again) {
			t.Fatalf("%q: %+v, then %+v", text, again, third)
		}
	}
}
