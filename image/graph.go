package image

import (
	"iter"

	"windrow/api"
	"windrow/classes"
	"windrow/objects"
)

// graph is a valid image whose objects are numbered from 0 on in their order. It shares no memory with the image.
type graph struct {
	addrs []int64
	roots []int   // the objects to which something outside refers
	refs  [][]int // those to which each object refers, in the order of its words
}

// look: the graph of an image; else why it isn't valid.
func look(t *classes.Table, x Image) (graph, api.Errno) {
	numbers, e := number(t, x.Cells)
	if e != api.OK {
		return graph{}, e
	}
	var g graph
	if g.roots, e = find(numbers, x.Roots); e != api.OK {
		return graph{}, e
	}
	for _, c := range x.Cells {
		refs, e := find(numbers, objects.Refs(t, c))
		if e != api.OK {
			return graph{}, e
		}
		g.addrs = append(g.addrs, c.Addr)
		g.refs = append(g.refs, refs)
	}
	return g, api.OK
}

// number: the number of each object by its name; else why one of them may not be.
func number(t *classes.Table, cells []api.Cell) (map[int64]int, api.Errno) {
	numbers := make(map[int64]int, len(cells))
	for i, c := range cells {
		if c.Addr < 1 {
			return nil, api.ErrAddr
		}
		if _, taken := numbers[c.Addr]; taken {
			return nil, api.ErrTwice
		}
		if !t.Fits(objects.Head(c)) {
			return nil, api.ErrForm
		}
		numbers[c.Addr] = i
	}
	return numbers, api.OK
}

// find: the objects of these references, but for those to nothing.
func find(numbers map[int64]int, refs []int64) ([]int, api.Errno) {
	var l []int
	for _, ref := range refs {
		if ref == 0 {
			continue
		}
		at, ok := numbers[ref]
		if !ok {
			return nil, api.ErrAddr
		}
		l = append(l, at)
	}
	return l, api.OK
}

// walk goes through the objects that can be reached, in the order in which they are found, with their distances.
func (g graph) walk() iter.Seq2[int, int] {
	return func(yield func(int, int) bool) {
		var queue []int
		far := make([]int, len(g.addrs))
		found := make([]bool, len(g.addrs))
		add := func(l []int, distance int) {
			for _, at := range l {
				if !found[at] {
					found[at], far[at] = true, distance
					queue = append(queue, at)
				}
			}
		}
		add(g.roots, 0)
		for len(queue) > 0 {
			at := queue[0]
			queue = queue[1:]
			if !yield(at, far[at]) {
				return
			}
			add(g.refs[at], far[at]+1)
		}
	}
}
