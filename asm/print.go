package asm

import (
	"strconv"
	"strings"

	"windrow/api"
	"windrow/classes"
	"windrow/code"
)

// printer holds a program's text so far.
type printer struct {
	program api.Program
	text    strings.Builder
}

// Print: a program's text.
func Print(p api.Program) (string, api.Errno) {
	if e := check(p); e != api.OK {
		return "", e
	}
	out := &printer{program: p}
	for _, c := range p.Classes {
		out.class(c)
	}
	for _, f := range p.Funcs {
		out.function(f)
	}
	if out.text.Len() > api.MaxText {
		return "", api.ErrBig
	}
	return out.text.String(), api.OK
}

// check: why a program has no text.
func check(p api.Program) api.Errno {
	table, _, e := classes.New(p.Classes)
	if e != api.OK {
		return e
	}
	if len(p.Funcs) > api.MaxFuncs {
		return api.ErrBig
	}
	numbers := map[string]int{}
	for n, f := range p.Funcs {
		if e := checkFunc(numbers, f); e != api.OK {
			return e
		}
		numbers[f.Name] = n
	}
	for _, f := range p.Funcs {
		for _, i := range f.Code {
			if e := checkIns(p, table, f, i); e != api.OK {
				return e
			}
		}
	}
	return api.OK
}

// checkFunc: why a function behind those that have these numbers may not be, its instructions aside.
func checkFunc(numbers map[string]int, f api.Func) api.Errno {
	if !classes.IsName(f.Name) {
		return api.ErrName
	}
	if _, taken := numbers[f.Name]; taken {
		return api.ErrTwice
	}
	if e := checkTypes(f.Params, api.MaxParams); e != api.OK {
		return e
	}
	if f.Result != api.None && !isType(f.Result) {
		return api.ErrType
	}
	if e := checkTypes(f.Locals, api.MaxLocals); e != api.OK {
		return e
	}
	if len(f.Code) > api.MaxCode {
		return api.ErrBig
	}
	return api.OK
}

// isType: may a parameter or another local have it?
func isType(t int) bool { return t == api.Int || t == api.Ref }

// checkTypes: why parameters or other locals may not have these types.
func checkTypes(l []int, most int) api.Errno {
	if len(l) > most {
		return api.ErrBig
	}
	for _, t := range l {
		if !isType(t) {
			return api.ErrType
		}
	}
	return api.OK
}

// checkIns: why a function may not have an instruction.
func checkIns(p api.Program, table *classes.Table, f api.Func, i api.Ins) api.Errno {
	if !code.Right(i) {
		return api.ErrOp
	}
	for _, kind := range operands(i.Op) {
		e := api.OK
		switch {
		case kind == isLabel && i.A > int64(len(f.Code)):
			e = api.ErrTarget
		case kind == isFunc && i.A >= int64(len(p.Funcs)):
			e = api.ErrFunc
		case kind == isClass:
			_, e = table.Class(int(i.A))
		case kind == isField:
			_, e = table.Type(int(i.A), int(i.B))
		}
		if e != api.OK {
			return e
		}
	}
	return api.OK
}

// line puts one behind the text.
func (p *printer) line(words ...string) {
	p.text.WriteString(strings.Join(words, " "))
	p.text.WriteByte('\n')
}

func (p *printer) class(c api.Class) {
	words := []string{wordClass, c.Name}
	for _, f := range c.Fields {
		words = append(words, f.Name+":"+typeWord(f.Type))
	}
	p.line(words...)
}

func (p *printer) function(f api.Func) {
	words := append([]string{wordFunc, f.Name}, typeWords(f.Params)...)
	if f.Result != api.None {
		words = append(words, wordArrow, typeWord(f.Result))
	}
	p.line(words...)
	if len(f.Locals) > 0 {
		p.line(append([]string{wordLocals}, typeWords(f.Locals)...)...)
	}
	labelled := targets(f)
	for at, i := range f.Code {
		if labelled[at] {
			p.label(at)
		}
		p.instruction(i)
	}
	if labelled[len(f.Code)] {
		p.label(len(f.Code))
	}
	p.line(wordEnd)
}

func typeWords(l []int) []string {
	var words []string
	for _, t := range l {
		words = append(words, typeWord(t))
	}
	return words
}

// targets: whether a jump refers to each instruction, and to the place behind the last one.
func targets(f api.Func) []bool {
	l := make([]bool, len(f.Code)+1)
	for _, i := range f.Code {
		if i.Op == code.Jump || i.Op == code.JumpIf {
			l[i.A] = true
		}
	}
	return l
}

// labelOf: the name of an instruction's label.
func labelOf(at int64) string { return "L" + strconv.FormatInt(at, 10) }

func (p *printer) label(at int) { p.line(labelOf(int64(at)) + ":") }

func (p *printer) instruction(i api.Ins) {
	words := []string{code.Name(i.Op)}
	for _, kind := range operands(i.Op) {
		words = append(words, p.operand(kind, i))
	}
	p.text.WriteString("  ")
	p.line(words...)
}

// operand: the word of the operand of this kind.
func (p *printer) operand(kind int, i api.Ins) string {
	switch kind {
	case isLabel:
		return labelOf(i.A)
	case isFunc:
		return p.program.Funcs[i.A].Name
	case isClass:
		return p.program.Classes[i.A].Name
	case isField:
		return p.program.Classes[i.A].Fields[i.B].Name
	}
	return strconv.FormatInt(i.A, 10)
}
