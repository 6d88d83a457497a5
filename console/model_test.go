package console_test

import (
	"fmt"
	"strings"
	"testing"

	"windrow/api"
	"windrow/asm"
	"windrow/code"
	"windrow/console"
	"windrow/objects"
	"windrow/verify"
	"windrow/world"
)

// model executes a script by the chapter's table. Each order leaves a report of its own.
type model struct {
	c       *verify.Checked
	w       *world.World
	reports []string
	kinds   map[int]int // how often each order was executed
	fault   api.Errno   // by which the script ended
}

func played(text string) *model {
	m := &model{kinds: map[int]int{}}
	orders, line, e := console.Parse(text)
	for _, o := range orders {
		report, failed := m.execute(o)
		if failed != api.OK {
			m.reports, m.fault = append(m.reports, fmt.Sprintf("error %d line %d\n", failed, o.Line)), failed
			return m
		}
		m.reports = append(m.reports, report)
		m.kinds[o.Kind]++
	}
	if e != api.OK {
		m.reports, m.fault = append(m.reports, fmt.Sprintf("error %d line %d\n", e, line)), e
	}
	return m
}

func (m *model) execute(o console.Order) (string, api.Errno) {
	switch {
	case o.Kind == console.Program:
		p, _, e := asm.Parse(o.Text)
		if e != api.OK {
			return "", e
		}
		c, _, e := verify.Check(p)
		m.c, m.w = c, nil
		return fmt.Sprintf("program %d %d\n", len(p.Classes), len(p.Funcs)), e
	case o.Kind == console.Start && m.c != nil:
		w, e := world.New(m.c, world.Config{Pages: o.Nums[0], Threads: o.Nums[1], Ring: o.Nums[2], Marks: o.Nums[3]})
		m.w = w
		return "started\n", e
	case m.w == nil:
		return "", api.ErrState
	}
	v, _ := m.w.View()
	switch o.Kind {
	case console.Pick:
		n, e := m.w.Run(o.Nums)
		return fmt.Sprintf("done %d\n", n), e
	case console.Turns:
		n, e := m.w.Turns(o.Nums[0])
		return fmt.Sprintf("picks %d\n", n), e
	case console.Finish:
		_, e := m.w.Finish(o.Nums[0])
		v, _ = m.w.View()
		return fmt.Sprintf("cycles %d\n", v.Cycles), e
	case console.Heap:
		return m.heap(v), api.OK
	case console.Ask:
		return ask(v, o.Nums[0], o.Nums[1])
	}
	return m.report(v, o), api.OK
}

func (m *model) report(v world.View, o console.Order) string {
	var text strings.Builder
	switch o.Kind {
	case console.Out:
		for _, x := range m.w.Outputs() {
			fmt.Fprintf(&text, "out %d %d\n", x.Thread, x.N)
		}
	case console.Threads:
		for n, th := range v.Threads {
			fmt.Fprintf(&text, "thread %d %s %d %d\n", n, []string{"", "running", "joining", "wanting", "ended", "trapped"}[th.Status], th.Result, th.Trap)
		}
	case console.Globals:
		n := 8
		for _, ref := range v.Globals {
			if ref == 0 {
				n--
			}
		}
		fmt.Fprintf(&text, "globals %d\n", n)
	case console.State:
		over := map[bool]int{true: 1}
		fmt.Fprintf(&text, "state over %d threads %d outputs %d\n", over[m.w.Over()], len(v.Threads), len(m.w.Outputs()))
	case console.Events:
		all := m.w.Events()
		for n, x := range all {
			if n >= len(all)-o.Nums[0] {
				fmt.Fprintf(&text, "event %d %d %d %s %d\n", x.Thread, x.Fn, x.Pc, code.Name(x.Op), x.Trap)
			}
		}
	case console.Again:
		// It comes to the same, so that each object that has an address is one that the plain machine makes.
		n := 0
		for _, x := range m.w.Events() {
			if x.Addr != 0 {
				n++
			}
		}
		fmt.Fprintf(&text, "again same %d\n", n)
	}
	return text.String()
}

// heap goes through what is reached by itself, so that it needs nothing of what isn't.
func (m *model) heap(v world.View) string {
	table := m.c.Table()
	cells := map[int64]api.Cell{}
	for _, c := range v.Cells {
		cells[c.Addr] = c
	}
	names := map[int64]int64{0: 0}
	var order []int64
	find := func(refs []int64) {
		for _, ref := range refs {
			if _, ok := names[ref]; !ok {
				order = append(order, ref)
				names[ref] = int64(len(order))
			}
		}
	}
	find(v.Roots)
	for n := 0; n < len(order); n++ {
		find(objects.Refs(table, cells[order[n]]))
	}
	var text strings.Builder
	fmt.Fprintf(&text, "heap %d\n", len(order))
	for n, addr := range order {
		c := cells[addr]
		word := map[int]string{api.Ints: "ints", api.Refs: "refs"}[c.Kind]
		if c.Kind == api.Fields {
			class, _ := table.Class(c.Class)
			word = class.Name
		}
		fmt.Fprintf(&text, "object %d %s", n+1, word)
		for i, x := range c.Words {
			if table.IsRef(objects.Head(c), i) {
				x = names[x]
			}
			fmt.Fprintf(&text, " %d", x)
		}
		text.WriteString("\n")
	}
	return text.String()
}

func ask(v world.View, t, local int) (string, api.Errno) {
	switch {
	case t >= len(v.Threads):
		return "", api.ErrArg
	case len(v.Threads[t].Frames) == 0:
		return "", api.ErrState
	}
	frames := v.Threads[t].Frames
	last := frames[len(frames)-1]
	if local >= len(last.Locals) {
		return "", api.ErrLocal
	}
	switch x := last.Locals[local]; {
	case x.Type == api.Int:
		return fmt.Sprintf("local int %d\n", x.N), api.OK
	case x.Type == api.Ref && x.N == 0:
		return "local ref 0\n", api.OK
	case x.Type == api.Ref:
		return "local ref 1\n", api.OK
	}
	return "local none\n", api.OK
}

// holds a script's report against what it should be.
func holds(t *testing.T, text, want string) {
	t.Helper()
	if got := console.Play(text); got != want {
		t.Fatalf("%s\nreports\n%s\nnot\n%s", text, got, want)
	}
}
