package walk

import (
	"slices"

	"casement/api"
	"casement/cons"
	"casement/share"
)

// Move moves a client that way.
func Move(c api.Con, client, dir int) (api.Con, api.Errno) {
	way, e := find(c, client, dir)
	if e != api.OK {
		return api.Con{}, e
	}
	root := cons.Copy(c)
	split, i := cut(&root, way)
	j, ok := beside(split, i, dir)
	switch {
	case !ok:
		return out(root, way, dir)
	case split.Kids[j].Kind == api.Leaf:
		split.Kids[i], split.Kids[j] = split.Kids[j], split.Kids[i]
		return root, api.OK
	}
	return into(root, split.Kids[i], split.Kids[j])
}

// into moves a leaf of a tree into a split of it that stands beside the leaf.
func into(root, leaf, split api.Con) (api.Con, api.Errno) {
	rest, _ := cons.Remove(root, leaf.Client) // no error: it was found there
	return cons.Insert(rest, last(split), leaf.Client, leaf.Seen)
}

// out moves the leaf at the end of a way out of the split that it is in, into the nearest one around that lies along the direction.
func out(root api.Con, way []int, dir int) (api.Con, api.Errno) {
	parent, at := cut(&root, way)
	leaf := parent.Kids[at]
	for deep := len(way) - 1; deep > 0; deep-- {
		split, i := cut(&root, way[:deep])
		if !along(split.Kind, dir) {
			continue
		}
		if len(split.Kids) == api.MaxParts { // even where the leaf was alone in its kid, and would leave room
			return api.Con{}, api.ErrLimit
		}
		split.Kids = slices.Replace(split.Kids, i, i+1, apart(split.Kids[i], leaf, dir)...)
		return root, api.OK
	}
	return api.Con{}, api.ErrMove
}

// apart tells what stands in a container's place when a leaf of it goes out in a direction: the leaf, and what is left, if anything is.
func apart(c, leaf api.Con, dir int) []api.Con {
	alone := cons.New(api.SplitH) // a root of its own, of whatever kind: below one, cons tidies all that the leaf was in
	alone.Kids = []api.Con{c}
	rest, _ := cons.Remove(alone, leaf.Client) // no error: it was found there
	leaf.Weight = share.One
	if ahead(dir) {
		return slices.Insert(rest.Kids, 0, leaf)
	}
	return append(rest.Kids, leaf)
}
