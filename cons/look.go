package cons

import "casement/api"

// enough is what a look is given up with when nothing is missing any more.
type enough struct{}

// look goes through a container and all in it, till the closure gives up by panic: as it has enough, or with an error.
func look(c api.Con, visit func(c api.Con, way []int)) (e api.Errno) {
	defer func() {
		switch end := recover().(type) {
		case nil, enough:
		case api.Errno:
			e = end
		default: // a fault of the program itself must not pass for an answer
			panic(end)
		}
	}()
	each(c, nil, visit)
	return api.OK
}

// each goes through a container and all in it, with the way to each: a split ahead of its kids, so that it can be given up before they are gone into.
func each(c api.Con, way []int, visit func(c api.Con, way []int)) {
	visit(c, way)
	for i, kid := range c.Kids {
		each(kid, append(way[:len(way):len(way)], i), visit) // a way that was kept must not become the next kid's
	}
}

// eachLeaf goes through the leaves of a tree, in order; what is no tree has none.
func eachLeaf(c api.Con, visit func(leaf api.Con)) {
	if Check(c) != api.OK {
		return
	}
	each(c, nil, func(c api.Con, _ []int) {
		if c.Kind == api.Leaf {
			visit(c)
		}
	})
}

// find tells the ways to clients' leaves, in what must be a tree: nil where a client has none.
func find(c api.Con, clients ...int) ([][]int, api.Errno) {
	if e := Check(c); e != api.OK {
		return nil, e
	}
	ways := make([][]int, len(clients))
	missing := len(clients)
	e := look(c, func(c api.Con, way []int) {
		if c.Kind != api.Leaf {
			return
		}
		for i, client := range clients { // all of them: one may be named twice
			if c.Client == client {
				ways[i] = way
				missing--
			}
		}
		if missing == 0 {
			panic(enough{})
		}
	})
	return ways, e
}

// at tells what stands at the end of a way: itself, no copy, so that it can be changed there.
func at(root *api.Con, way []int) *api.Con {
	for _, i := range way {
		root = &root.Kids[i]
	}
	return root
}

// cut tells the split that the end of a way stands in, and its place there.
func cut(root *api.Con, way []int) (*api.Con, int) {
	last := len(way) - 1
	return at(root, way[:last]), way[last]
}
