package verify_test

import (
	"slices"
	"strings"

	"windrow/api"
	"windrow/classes"
	"windrow/code"
	"windrow/verify"
)

// row is one of the chapter's table of effects. i and r are types; ? is any; 1 and 2 are those that were taken first and
// second; d is the declared type of the local, l what it has, f that of the field, p the parameters and o the result of
// the function that is called, x the result of the own one.
type row struct{ takes, puts string }

func effects() map[string]row {
	return map[string]row{
		"const": {"", "i"},
		"null":  {"", "r"}, "global": {"", "r"}, "new": {"", "r"},
		"load":  {"", "l"},
		"store": {"d", ""},
		"dup":   {"?", "11"},
		"drop":  {"?", ""},
		"swap":  {"??", "12"},
		"add":   {"ii", "i"}, "sub": {"ii", "i"}, "mul": {"ii", "i"}, "div": {"ii", "i"}, "rem": {"ii", "i"}, "eq": {"ii", "i"}, "less": {"ii", "i"},
		"neg": {"i", "i"}, "join": {"i", "i"},
		"same":   {"rr", "i"},
		"isnull": {"r", "i"}, "len": {"r", "i"},
		"jump": {"", ""}, "poll": {"", ""}, "collect": {"", ""},
		"jumpif": {"i", ""}, "out": {"i", ""},
		"setglobal": {"r", ""},
		"call":      {"p", "o"},
		"spawn":     {"p", "i"},
		"return":    {"x", ""},
		"newints":   {"i", "r"}, "newrefs": {"i", "r"},
		"get":   {"r", "f"},
		"put":   {"rf", ""},
		"cas":   {"rff", "i"},
		"intat": {"ri", "i"}, "refat": {"ri", "r"},
		"setint": {"rii", ""},
		"setref": {"rir", ""},
	}
}

// letter of a type; - is None.
func letter(kind int) string { return "-ir"[kind : kind+1] }

func letters(kinds []int) string {
	s := ""
	for _, kind := range kinds {
		s += letter(kind)
	}
	return s
}

// numbers: the types of letters.
func numbers(s string) []int {
	var l []int
	for i := range len(s) {
		l = append(l, strings.IndexByte("-ir", s[i]))
	}
	return l
}

// known is a point, in letters.
type known struct {
	reached       bool
	locals, stack string
}

// model looks programs over by the chapter's words.
type model struct {
	p      api.Program
	rows   map[string]row
	points [][]known
}

// check: by the chapter's words, where p is wrong; else nothing, and the points of all functions.
func check(p api.Program) (*model, verify.Place, api.Errno) {
	m := &model{p: p, rows: effects()}
	if _, at, e := classes.New(p.Classes); e != api.OK {
		return nil, verify.Place{Fn: -1, Pc: at}, e
	}
	if len(p.Funcs) == 0 {
		return nil, verify.Place{}, api.ErrFunc
	}
	if len(p.Funcs) > 16 {
		return nil, verify.Place{}, api.ErrBig
	}
	for fn := range p.Funcs {
		if e := m.third(fn); e != api.OK {
			return nil, verify.Place{Fn: fn}, e
		}
	}
	for fn := range p.Funcs {
		if pc, e := m.fourth(fn); e != api.OK {
			return nil, verify.Place{Fn: fn, Pc: pc}, e
		}
	}
	for fn := range p.Funcs {
		points, pc, e := m.fifth(p.Funcs[fn])
		if e != api.OK {
			return nil, verify.Place{Fn: fn, Pc: pc}, e
		}
		m.points = append(m.points, points)
	}
	return m, verify.Place{}, api.OK
}

// third is the order's third part.
func (m *model) third(fn int) api.Errno {
	f := m.p.Funcs[fn]
	if !classes.IsName(f.Name) {
		return api.ErrName
	}
	for _, earlier := range m.p.Funcs[:fn] {
		if earlier.Name == f.Name {
			return api.ErrTwice
		}
	}
	all := slices.Concat(f.Params, f.Locals)
	if len(f.Params) > 6 || len(all) > 16 || len(f.Code) > 256 {
		return api.ErrBig
	}
	if slices.ContainsFunc(all, func(kind int) bool { return kind != 1 && kind != 2 }) || f.Result < 0 || f.Result > 2 {
		return api.ErrType
	}
	if len(f.Code) == 0 {
		return api.ErrFall
	}
	if fn == 0 && (len(f.Params) != 0 || f.Result == 2) {
		return api.ErrEntry
	}
	return api.OK
}

// fourth is the order's fourth part.
func (m *model) fourth(fn int) (int, api.Errno) {
	f := m.p.Funcs[fn]
	for pc, i := range f.Code {
		if e := m.names(f, i); e != api.OK {
			return pc, e
		}
	}
	if f.Code[0].Op != 38 {
		return 0, api.ErrPoll
	}
	for pc, i := range f.Code {
		if (i.Op == 18 || i.Op == 19) && i.A <= int64(pc) && f.Code[i.A].Op != 38 {
			return pc, api.ErrPoll
		}
	}
	return 0, api.OK
}

// names: is there what an instruction names?
func (m *model) names(f api.Func, i api.Ins) api.Errno {
	if !code.Right(i) {
		return api.ErrOp
	}
	switch code.Name(i.Op) {
	case "load", "store":
		if i.A >= int64(len(f.Params)+len(f.Locals)) {
			return api.ErrLocal
		}
	case "jump", "jumpif":
		if i.A >= int64(len(f.Code)) {
			return api.ErrTarget
		}
	case "call", "spawn":
		if i.A >= int64(len(m.p.Funcs)) {
			return api.ErrFunc
		}
	case "new", "get", "put", "cas":
		if i.A >= int64(len(m.p.Classes)) {
			return api.ErrClass
		}
		if code.Name(i.Op) != "new" && i.B >= int64(len(m.p.Classes[i.A].Fields)) {
			return api.ErrField
		}
	case "global", "setglobal":
		if i.A > 7 {
			return api.ErrGlobal
		}
	}
	return api.OK
}

// fifth: the points of a function.
func (m *model) fifth(f api.Func) ([]known, int, api.Errno) {
	points := make([]known, len(f.Code))
	points[0] = known{true, letters(f.Params) + strings.Repeat("-", len(f.Locals)), ""}
	waits := make([]bool, len(f.Code))
	waits[0] = true
	for slices.Contains(waits, true) {
		pc := slices.Index(waits, true)
		waits[pc] = false
		after, e := m.effect(f, f.Code[pc], points[pc])
		if e != api.OK {
			return nil, pc, e
		}
		for _, to := range follow(f, pc) {
			if to == len(f.Code) {
				return nil, pc, api.ErrFall
			}
			there := points[to]
			if !there.reached {
				points[to], waits[to] = after, true
				continue
			}
			if len(there.stack) != len(after.stack) {
				return nil, pc, api.ErrDepth
			}
			if there.stack != after.stack {
				return nil, pc, api.ErrType
			}
			merged := ""
			for i := range len(there.locals) {
				if there.locals[i] == after.locals[i] {
					merged += there.locals[i : i+1]
				} else {
					merged += "-"
				}
			}
			if merged != there.locals {
				points[to].locals, waits[to] = merged, true
			}
		}
	}
	return points, 0, api.OK
}

// follow: where the result of an instruction is passed on to.
func follow(f api.Func, pc int) []int {
	switch to := int(f.Code[pc].A); code.Name(f.Code[pc].Op) {
	case "return":
		return nil
	case "jump":
		return []int{to}
	case "jumpif":
		return []int{to, pc + 1}
	}
	return []int{pc + 1}
}

// effect: the point behind an instruction.
func (m *model) effect(f api.Func, i api.Ins, k known) (known, api.Errno) {
	name := code.Name(i.Op)
	if name == "load" && k.locals[i.A] == '-' {
		return known{}, api.ErrType
	}
	if name == "spawn" && m.p.Funcs[i.A].Result == 2 {
		return known{}, api.ErrType
	}
	takes := m.expand(f, i, k, m.rows[name].takes)
	taken := ""
	for len(takes) > 0 {
		if k.stack == "" {
			return known{}, api.ErrDepth
		}
		wants, has := takes[len(takes)-1], k.stack[len(k.stack)-1]
		if wants != '?' && wants != has {
			return known{}, api.ErrType
		}
		takes, k.stack, taken = takes[:len(takes)-1], k.stack[:len(k.stack)-1], taken+string(has)
	}
	if name == "return" && k.stack != "" {
		return known{}, api.ErrDepth
	}
	puts := m.expand(f, i, k, m.rows[name].puts)
	for j := range len(taken) {
		puts = strings.ReplaceAll(puts, string(rune('1'+j)), taken[j:j+1])
	}
	k.stack += puts
	if len(k.stack) > 16 {
		return known{}, api.ErrDepth
	}
	if name == "store" {
		k.locals = k.locals[:i.A] + m.expand(f, i, k, "d") + k.locals[i.A+1:]
	}
	return k, api.OK
}

// expand: the types for a row's letters.
func (m *model) expand(f api.Func, i api.Ins, k known, s string) string {
	all := ""
	for _, c := range s {
		switch c {
		case 'd':
			all += letter(slices.Concat(f.Params, f.Locals)[i.A])
		case 'l':
			all += k.locals[i.A : i.A+1]
		case 'f':
			all += letter(m.p.Classes[i.A].Fields[i.B].Type)
		case 'p':
			all += letters(m.p.Funcs[i.A].Params)
		case 'o':
			all += strings.Trim(letter(m.p.Funcs[i.A].Result), "-")
		case 'x':
			all += strings.Trim(letter(f.Result), "-")
		default:
			all += string(c)
		}
	}
	return all
}

// longest: so many instructions can follow one another, found by going on a step at a time from all of them at once.
func (m *model) longest(fn int) int {
	f := m.p.Funcs[fn]
	at := make([]bool, len(f.Code)) // where a row of n instructions may end
	for pc, i := range f.Code {
		at[pc] = m.points[fn][pc].reached && i.Op != 38
	}
	n := 0
	for slices.Contains(at, true) {
		n++
		then := make([]bool, len(f.Code))
		for pc, here := range at {
			if here && f.Code[pc].Op != 20 {
				for _, to := range follow(f, pc) {
					then[to] = f.Code[to].Op != 38
				}
			}
		}
		at = then
	}
	return n
}
