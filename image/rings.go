package image

import (
	"slices"

	"windrow/api"
	"windrow/classes"
)

// Rings: the objects that can be reached from themselves, rising.
func Rings(t *classes.Table, x Image) ([]int64, api.Errno) {
	g, e := look(t, x)
	if e != api.OK {
		return nil, e
	}
	var l []int64
	holders := turned(g.refs)
	found := make([]bool, len(g.addrs))
	// An object that reaches another one, from which no way leads back, is left behind it, and so gathered ahead of it.
	// Whoever still reaches an object when its turn comes is therefore reached by it, too.
	for _, at := range slices.Backward(g.left()) {
		group := gather(holders, found, at)
		if len(group) == 1 && !slices.Contains(g.refs[at], at) {
			continue
		}
		for _, member := range group {
			l = append(l, g.addrs[member])
		}
	}
	slices.Sort(l)
	return l, api.OK
}

// left: all objects in the order in which a search leaves them: each behind all that it finds from there on.
func (g graph) left() []int {
	var order, path []int
	found := make([]bool, len(g.refs))
	followed := make([]int, len(g.refs)) // how many references of each object
	enter := func(at int) {
		if !found[at] {
			found[at] = true
			path = append(path, at)
		}
	}
	for begin := range g.refs {
		enter(begin)
		for len(path) > 0 {
			at := path[len(path)-1]
			if n := followed[at]; n < len(g.refs[at]) {
				followed[at]++
				enter(g.refs[at][n])
			} else {
				order = append(order, at)
				path = path[:len(path)-1]
			}
		}
	}
	return order
}

// turned: for each object, those that refer to it.
func turned(refs [][]int) [][]int {
	holders := make([][]int, len(refs))
	for at, l := range refs {
		for _, ref := range l {
			holders[ref] = append(holders[ref], at)
		}
	}
	return holders
}

// gather: the object and all that are found from it and weren't before.
func gather(refs [][]int, found []bool, begin int) []int {
	if found[begin] {
		return nil
	}
	found[begin] = true
	group := []int{begin}
	for n := 0; n < len(group); n++ {
		for _, at := range refs[group[n]] {
			if !found[at] {
				found[at] = true
				group = append(group, at)
			}
		}
	}
	return group
}
