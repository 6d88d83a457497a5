package asm

import (
	"errors"
	"strconv"
	"strings"

	"windrow/api"
	"windrow/classes"
	"windrow/code"
)

// wrongLine is the error that a wrong line is reported by.
type wrongLine struct {
	line int
	e    api.Errno
}

func (w wrongLine) Error() string {
	return "line " + strconv.Itoa(w.line) + ": error " + strconv.Itoa(int(w.e))
}

// parser is what is known of a text from its lines so far.
type parser struct {
	line    int // the number of the line that is looked at
	program api.Program
	classes map[string]int // numbers of classes, by their names
	funcs   map[string]int // the same of functions
	inside  bool           // a function has no end yet
	begun   bool           // it has other locals, a label or an instruction
	labels  map[string]int // what its labels refer to
	jumps   []use          // its instructions that refer to labels
	uses    []use          // what refers to functions, classes and fields
}

// use is an instruction that refers to names.
type use struct {
	line  int
	fn    int
	at    int      // which of the function's instructions
	names []string // as its operands
}

// Parse: the program of a text; else the line that is wrong.
func Parse(text string) (p api.Program, line int, e api.Errno) {
	if len(text) > api.MaxText {
		return api.Program{}, 0, api.ErrBig
	}
	defer func() {
		if caught := recover(); caught != nil {
			line, e = reported(caught)
		}
	}()
	return parse(text), 0, api.OK
}

// reported: the line that was reported as wrong, and its error.
func reported(caught any) (int, api.Errno) {
	if err, ok := caught.(error); ok {
		var wrong wrongLine
		if errors.As(err, &wrong) {
			return wrong.line, wrong.e
		}
	}
	// No line was reported: it is a fault of this package, which no answer may hide.
	panic(caught)
}

// parse: the program of a text; it panics with the wrongLine if there is one.
func parse(text string) api.Program {
	p := &parser{classes: map[string]int{}, funcs: map[string]int{}}
	for line := range strings.SplitSeq(text, "\n") {
		p.line++
		if words := separate(line); len(words) > 0 {
			p.take(words)
		}
	}
	p.line++
	p.need(!p.inside, api.ErrSyntax)
	p.resolve()
	return p.program
}

// separate: the words of a line ahead of its comment.
func separate(line string) []string {
	told, _, _ := strings.Cut(line, ";")
	return strings.FieldsFunc(told, func(r rune) bool { return r == ' ' || r == '\t' })
}

// needAt reports a line as wrong unless something holds.
func needAt(line int, holds bool, e api.Errno) {
	if !holds {
		panic(wrongLine{line, e})
	}
}

// need does so for the line that is looked at.
func (p *parser) need(holds bool, e api.Errno) { needAt(p.line, holds, e) }

// enter gives a name a number, if it is one and has none yet.
func (p *parser) enter(numbers map[string]int, name string, number int) {
	p.need(classes.IsName(name), api.ErrName)
	_, taken := numbers[name]
	p.need(!taken, api.ErrTwice)
	numbers[name] = number
}

// take parses a line that has words.
func (p *parser) take(words []string) {
	switch words[0] {
	case wordClass:
		p.class(words[1:])
	case wordFunc:
		p.function(words[1:])
	case wordLocals:
		p.locals(words[1:])
	case wordEnd:
		p.end(words[1:])
	default:
		if name, ok := strings.CutSuffix(words[0], ":"); ok && len(words) == 1 {
			p.label(name)
		} else {
			p.instruction(words)
		}
	}
}

func (p *parser) class(words []string) {
	p.need(!p.inside && len(words) > 0, api.ErrSyntax)
	number := len(p.program.Classes)
	p.enter(p.classes, words[0], number)
	// Names are copied, since a part of the text would keep the whole.
	c := api.Class{Name: strings.Clone(words[0])}
	indexes := map[string]int{}
	for i, word := range words[1:] {
		name, told, _ := strings.Cut(word, ":")
		t := typeOf(told)
		p.need(t != api.None, api.ErrSyntax)
		p.enter(indexes, name, i)
		c.Fields = append(c.Fields, api.Field{Name: strings.Clone(name), Type: t})
	}
	p.need(len(c.Fields) <= api.MaxFields && number < api.MaxClasses, api.ErrBig)
	p.program.Classes = append(p.program.Classes, c)
}

func (p *parser) function(words []string) {
	p.need(!p.inside && len(words) > 0, api.ErrSyntax)
	number := len(p.program.Funcs)
	p.enter(p.funcs, words[0], number)
	f := api.Func{Name: strings.Clone(words[0])}
	params := words[1:]
	if n := len(params); n >= 2 && params[n-2] == wordArrow {
		f.Result = typeOf(params[n-1])
		p.need(f.Result != api.None, api.ErrSyntax)
		params = params[:n-2]
	}
	f.Params = p.types(params)
	p.need(len(f.Params) <= api.MaxParams && number < api.MaxFuncs, api.ErrBig)
	p.program.Funcs = append(p.program.Funcs, f)
	p.inside, p.begun = true, false
	p.labels, p.jumps = map[string]int{}, nil
}

// types: those that words stand for.
func (p *parser) types(words []string) []int {
	var l []int
	for _, word := range words {
		t := typeOf(word)
		p.need(t != api.None, api.ErrSyntax)
		l = append(l, t)
	}
	return l
}

// current: the function that has no end yet.
func (p *parser) current() *api.Func { return &p.program.Funcs[len(p.program.Funcs)-1] }

func (p *parser) locals(words []string) {
	p.need(p.inside && len(words) > 0, api.ErrSyntax)
	p.need(!p.begun, api.ErrTwice)
	l := p.types(words)
	p.need(len(l) <= api.MaxLocals, api.ErrBig)
	p.current().Locals = l
	p.begun = true
}

func (p *parser) label(name string) {
	p.need(p.inside, api.ErrSyntax)
	p.enter(p.labels, name, len(p.current().Code))
	p.begun = true
}

func (p *parser) end(words []string) {
	p.need(p.inside && len(words) == 0, api.ErrSyntax)
	f := p.current()
	for _, u := range p.jumps {
		target, ok := p.labels[u.names[0]]
		needAt(u.line, ok, api.ErrLabel)
		f.Code[u.at].A = int64(target)
	}
	p.inside = false
}

func (p *parser) instruction(words []string) {
	p.need(p.inside, api.ErrSyntax)
	i := api.Ins{Op: code.Find(words[0])}
	p.need(i.Op != 0 && len(words)-1 == code.Operands(i.Op), api.ErrSyntax)
	u := use{line: p.line, fn: len(p.program.Funcs) - 1, at: len(p.current().Code)}
	for k, kind := range operands(i.Op) {
		word := words[1+k]
		if kind == isNumber {
			i.A = p.number(word)
			continue
		}
		p.need(classes.IsName(word), api.ErrName)
		u.names = append(u.names, word)
	}
	p.need(code.Right(i), api.ErrSyntax)
	p.need(u.at < api.MaxCode, api.ErrBig)
	p.current().Code = append(p.current().Code, i)
	p.begun = true
	// What the names refer to may stand behind this line.
	if i.Op == code.Jump || i.Op == code.JumpIf {
		p.jumps = append(p.jumps, u)
	} else if len(u.names) > 0 {
		p.uses = append(p.uses, u)
	}
}

// number: the one that a word stands for.
func (p *parser) number(word string) int64 {
	n, err := strconv.ParseInt(word, 10, 64)
	// Each number is written in one way, without a + and without noughts in front.
	p.need(err == nil && strconv.FormatInt(n, 10) == word, api.ErrSyntax)
	return n
}

// resolve gives all that refers to functions, classes and fields their numbers.
func (p *parser) resolve() {
	// The lines were looked over, so that nothing is wrong with the classes.
	table, _, _ := classes.New(p.program.Classes)
	for _, u := range p.uses {
		i := &p.program.Funcs[u.fn].Code[u.at]
		if i.Op == code.Call || i.Op == code.Spawn {
			number, ok := p.funcs[u.names[0]]
			needAt(u.line, ok, api.ErrFunc)
			i.A = int64(number)
			continue
		}
		class, e := table.Find(u.names[0])
		needAt(u.line, e == api.OK, e)
		i.A = int64(class)
		if len(u.names) > 1 {
			field, e := table.Field(class, u.names[1])
			needAt(u.line, e == api.OK, e)
			i.B = int64(field)
		}
	}
}
