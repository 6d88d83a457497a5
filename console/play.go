package console

import (
	"strconv"
	"strings"

	"windrow/api"
	"windrow/asm"
	"windrow/verify"
	"windrow/world"
)

// player executes the orders of a script.
type player struct {
	program *verify.Checked // nil: there is none yet
	world   *world.World    // nil: there is none
	report  strings.Builder
}

// Play: a script's report.
func Play(text string) string {
	orders, line, e := Parse(text)
	p := &player{}
	for _, o := range orders {
		if failed := p.execute(o); failed != api.OK {
			p.tellError(failed, o.Line)
			return p.report.String()
		}
	}
	if e != api.OK {
		p.tellError(e, line)
	}
	return p.report.String()
}

// tell adds a line to the report.
func (p *player) tell(words ...string) {
	p.report.WriteString(strings.Join(words, " "))
	p.report.WriteByte('\n')
}

// told: a number, as a report has it.
func told[N ~int | ~int64](n N) string { return strconv.FormatInt(int64(n), 10) }

// toldBit: whether something holds, as a report has it.
func toldBit(holds bool) string {
	if holds {
		return "1"
	}
	return "0"
}

func (p *player) tellError(e api.Errno, line int) { p.tell("error", told(e), "line", told(line)) }

// execute does what an order asks for, and tells what came of it; else why it fails.
func (p *player) execute(o Order) api.Errno {
	switch {
	case o.Kind == Program:
		return p.load(o.Text)
	case o.Kind == Start:
		return p.start(o.Nums)
	case p.world == nil:
		return api.ErrState
	}
	switch o.Kind {
	case Pick:
		return p.pick(o.Nums)
	case Turns:
		return p.turns(o.Nums[0])
	case Finish:
		return p.finish(o.Nums[0])
	}
	return p.look(o)
}

// load: there is the program of a text, and no world of it yet.
func (p *player) load(text string) api.Errno {
	program, _, e := asm.Parse(text)
	if e != api.OK {
		return e
	}
	checked, _, e := verify.Check(program)
	if e != api.OK {
		return e
	}
	p.program, p.world = checked, nil
	p.tell("program", told(len(program.Classes)), told(len(program.Funcs)))
	return api.OK
}

// start: there is a world of the program, with so many pages, threads, slots of rings, and places of the collector's stack.
func (p *player) start(nums []int) api.Errno {
	if p.program == nil {
		return api.ErrState
	}
	w, e := world.New(p.program, world.Config{Pages: nums[0], Threads: nums[1], Ring: nums[2], Marks: nums[3]})
	if e != api.OK {
		return e
	}
	p.world = w
	p.tell("started")
	return api.OK
}

func (p *player) pick(picks []int) api.Errno {
	done, e := p.world.Run(picks)
	if e != api.OK {
		return e
	}
	p.tell("done", told(done))
	return api.OK
}

func (p *player) turns(n int) api.Errno {
	made, e := p.world.Turns(n)
	if e != api.OK {
		return e
	}
	p.tell("picks", told(made))
	return api.OK
}

func (p *player) finish(most int) api.Errno {
	if _, e := p.world.Finish(most); e != api.OK {
		return e
	}
	v, e := p.world.View()
	if e != api.OK {
		return e
	}
	p.tell("cycles", told(v.Cycles))
	return api.OK
}
