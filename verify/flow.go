package verify

import (
	"slices"

	"windrow/api"
	"windrow/code"
)

// flow finds what is known ahead of each instruction of a function; else the instruction that is wrong.
func (c *Checked) flow(f api.Func) ([]Point, int, api.Errno) {
	points := make([]Point, len(f.Code))
	points[0] = entry(f)
	waiting := map[int]struct{}{0: {}}
	at, e := 0, api.OK
search:
	for len(waiting) > 0 {
		at = lowest(waiting)
		delete(waiting, at)
		var result Point
		if result, e = c.apply(f, f.Code[at], points[at]); e != api.OK {
			break search
		}
		for _, next := range nexts(at, f.Code[at]) {
			var waits bool
			if waits, e = pass(points, next, result); e != api.OK {
				break search
			}
			if waits {
				waiting[next] = struct{}{}
			}
		}
	}
	if e != api.OK {
		return nil, at, e
	}
	return points, 0, api.OK
}

// entry: what is known where a function begins.
func entry(f api.Func) Point {
	return Point{Reached: true, Locals: append(slices.Clone(f.Params), make([]int, len(f.Locals))...)}
}

// lowest: the least of some instructions.
func lowest(waiting map[int]struct{}) int {
	least := api.MaxCode
	for pc := range waiting {
		least = min(least, pc)
	}
	return least
}

// nexts: the instructions to which the result of one is passed on, in this order. The one behind it may be missing.
func nexts(pc int, i api.Ins) []int {
	switch i.Op {
	case code.Return:
		return nil
	case code.Jump:
		return []int{int(i.A)}
	case code.JumpIf:
		return []int{int(i.A), pc + 1}
	}
	return []int{pc + 1}
}

// pass lays what was known after an instruction upon what is known ahead of the next one; true: that one waits now.
func pass(points []Point, next int, result Point) (bool, api.Errno) {
	if next >= len(points) {
		return false, api.ErrFall
	}
	known := &points[next]
	switch {
	case !known.Reached:
		*known = result.clone()
		return true, api.OK
	case len(known.Stack) != len(result.Stack):
		return false, api.ErrDepth
	case !slices.Equal(known.Stack, result.Stack):
		return false, api.ErrType
	}
	waits := false
	for i, kind := range result.Locals {
		if known.Locals[i] != api.None && known.Locals[i] != kind {
			known.Locals[i] = api.None
			waits = true
		}
	}
	return waits, api.OK
}
