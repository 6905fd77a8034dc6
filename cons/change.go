package cons

import (
	"slices"

	"casement/api"
	"casement/share"
)

// change makes another tree of one: a closure changes a copy of it, told the way to a client's leaf.
func change(c api.Con, client int, how func(root *api.Con, way []int) api.Errno) (api.Con, api.Errno) {
	ways, e := find(c, client)
	switch {
	case e != api.OK:
		return api.Con{}, e
	case ways[0] == nil:
		return api.Con{}, api.ErrNone
	}
	root := Copy(c)
	if e := how(&root, ways[0]); e != api.OK {
		return api.Con{}, e
	}
	return root, api.OK
}

// Insert puts a client into a tree: behind another one, or, without one, at the end.
func Insert(c api.Con, near, client, seen int) (api.Con, api.Errno) {
	ways, e := find(c, client, near)
	switch {
	case e != api.OK:
		return api.Con{}, e
	case ways[0] != nil:
		return api.Con{}, api.ErrTwice
	case client < 1 || seen < 0:
		return api.Con{}, api.ErrArg
	case near != 0 && ways[1] == nil:
		return api.Con{}, api.ErrNone
	}
	root := Copy(c)
	split, i := &root, len(root.Kids)
	if near != 0 {
		split, i = cut(&root, ways[1])
		i++
	}
	if len(split.Kids) == api.MaxParts || len(Leaves(c)) == api.MaxClients {
		return api.Con{}, api.ErrLimit
	}
	leaf := api.Con{Kind: api.Leaf, Weight: share.One, Client: client, Seen: seen}
	split.Kids = slices.Insert(split.Kids, i, leaf)
	return root, api.OK
}

// Remove takes a client out of a tree.
func Remove(c api.Con, client int) (api.Con, api.Errno) {
	return change(c, client, func(root *api.Con, way []int) api.Errno {
		split, i := cut(root, way)
		split.Kids = without(split.Kids, i)
		for deep := len(way) - 1; deep > 0; deep-- {
			tidy(cut(root, way[:deep]))
		}
		return api.OK
	})
}

// without leaves one place out of a list.
func without(kids []api.Con, i int) []api.Con { return slices.Concat(kids[:i], kids[i+1:]) }

// tidy does away with a split's kid that is a split no longer needed: it has no kids, or but one.
func tidy(split *api.Con, i int) {
	kid := split.Kids[i]
	switch len(kid.Kids) {
	case 0:
		split.Kids = without(split.Kids, i)
	case 1:
		split.Kids[i] = kid.Kids[0]
		split.Kids[i].Weight = kid.Weight
	}
}

// Swap exchanges two clients.
func Swap(c api.Con, a, b int) (api.Con, api.Errno) {
	ways, e := find(c, a, b)
	switch {
	case e != api.OK:
		return api.Con{}, e
	case ways[0] == nil || ways[1] == nil:
		return api.Con{}, api.ErrNone
	}
	root := Copy(c)
	one, two := at(&root, ways[0]), at(&root, ways[1])
	one.Client, two.Client = two.Client, one.Client
	one.Seen, two.Seen = two.Seen, one.Seen
	return root, api.OK
}

// Wrap makes a split of a client alone.
func Wrap(c api.Con, client, kind int) (api.Con, api.Errno) {
	if !isSplit(kind) {
		return api.Con{}, api.ErrArg
	}
	return change(c, client, func(root *api.Con, way []int) api.Errno {
		split, i := cut(root, way)
		switch {
		case len(split.Kids) == 1: // the client is alone already
			split.Kind = kind
			return api.OK
		case len(way) == api.MaxDeep:
			return api.ErrLimit
		}
		leaf := split.Kids[i]
		around := api.Con{Kind: kind, Weight: leaf.Weight}
		leaf.Weight = share.One
		around.Kids = []api.Con{leaf}
		split.Kids[i] = around
		return api.OK
	})
}

// Turn gives the split that a client is in another kind.
func Turn(c api.Con, client, kind int) (api.Con, api.Errno) {
	if !isSplit(kind) {
		return api.Con{}, api.ErrArg
	}
	return change(c, client, func(root *api.Con, way []int) api.Errno {
		split, _ := cut(root, way)
		split.Kind = kind
		return api.OK
	})
}

// Grow makes a client wider, or higher: the nearest of what is around it that stands beside others that way.
func Grow(c api.Con, client, kind int, by float64) (api.Con, api.Errno) {
	if kind != api.SplitH && kind != api.SplitV {
		return api.Con{}, api.ErrArg
	}
	return change(c, client, func(root *api.Con, way []int) api.Errno {
		for deep := len(way); deep > 0; deep-- {
			split, i := cut(root, way[:deep])
			if split.Kind == kind && len(split.Kids) >= 2 {
				return grow(&split.Kids[i], by)
			}
		}
		return api.ErrMove
	})
}

// grow hands over one weight alone: what the others are changes nothing of it.
func grow(c *api.Con, by float64) api.Errno {
	grown, e := share.Grow([]int{c.Weight}, 0, by)
	if e == api.OK {
		c.Weight = grown[0]
	}
	return e
}

// Touch says when a client was seen.
func Touch(c api.Con, client, seen int) (api.Con, api.Errno) {
	if seen < 0 {
		return api.Con{}, api.ErrArg
	}
	return change(c, client, func(root *api.Con, way []int) api.Errno {
		at(root, way).Seen = seen
		return api.OK
	})
}
