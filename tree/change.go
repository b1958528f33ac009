package tree

import (
	"slices"

	"armoire/api"
	"armoire/node"
)

// change is what a Put or Delete comes to. It is worked out as a whole ahead of the first page that is put: what may be amiss on the way was met by then.
type change struct {
	made []node.Node // kids ahead of those that have them
	old  []int       // the pages in whose place they come
}

// changeOf is one in which all nodes of a way are replaced.
func changeOf(way []step) *change {
	c := &change{}
	for _, s := range way {
		c.old = append(c.old, s.id)
	}
	return c
}

// standIn is what stands for the page of a node that was made, while it has none: a number below none and all pages.
func standIn(made int) int {
	return none - 1 - made
}

// pageOf is the page that a number means, when what was made is put on these.
func pageOf(id int, put []int) int {
	if id < none {
		return put[none-1-id]
	}
	return id
}

// add: a node is made; what stands for its page.
func (c *change) add(n node.Node) int {
	c.made = append(c.made, n)
	return standIn(len(c.made) - 1)
}

// replace is a node in which others come in the place of so many kids, from one on, with keys between them.
func (c *change) replace(up node.Node, from, many int, kids []node.Node, keys ...string) node.Node {
	var ids []int
	for _, kid := range kids {
		ids = append(ids, c.add(kid))
	}
	return node.Node{
		Keys: slices.Concat(up.Keys[:from], keys, up.Keys[from+many-1:]),
		Kids: slices.Concat(up.Kids[:from], ids, up.Kids[from+many:]),
	}
}

// split is a node of the way with a kid that has changed, or with its halves, if it is Over.
func (c *change) split(up step, kid node.Node) node.Node {
	if !kid.Over() {
		return c.replace(up.node, up.at, 1, []node.Node{kid})
	}
	a, key, b := kid.Split()
	return c.replace(up.node, up.at, 1, []node.Node{a, b}, key)
}

// level is a node of the way with a kid that has changed, or with what this and the one beside it are levelled to, if it is Under.
func (t *Tree) level(c *change, up step, kid node.Node) (node.Node, api.Errno) {
	if !kid.Under() {
		return c.replace(up.node, up.at, 1, []node.Node{kid}), api.OK
	}
	first := max(up.at-1, 0)
	beside := first
	if up.at == first {
		beside++
	}
	other, err := t.Load(up.node.Kids[beside])
	if err != api.OK {
		return node.Node{}, err
	}
	a, key, b := other, up.node.Keys[first], kid
	if up.at == first {
		a, b = kid, other
	}
	if !mayJoin(a, key, b) {
		return node.Node{}, api.ErrBad
	}
	c.old = append(c.old, up.node.Kids[beside])
	two := node.Level(a, key, b)
	if len(two) == 1 {
		return c.replace(up.node, first, 2, two), api.OK
	}
	return c.replace(up.node, first, 2, two, node.Between(a, key, b)), api.OK
}

// mayJoin: are two nodes of one sort, each on its side of a key? On pages that no tree wrote anything may stand.
func mayJoin(a node.Node, key string, b node.Node) bool {
	isBelow := len(a.Keys) == 0 || a.Keys[len(a.Keys)-1] < key
	isNotBelow := len(b.Keys) == 0 || b.Keys[0] >= key
	return a.Leaf == b.Leaf && isBelow && isNotBelow
}

// root is what stands for the root's page, where a Delete leaves this node at the top.
func (c *change) root(n node.Node) int {
	if !n.Leaf && n.Len() == 1 {
		// Its one kid, which replaces it, was made last.
		last := len(c.made) - 1
		n, c.made = c.made[last], c.made[:last]
	}
	if n.Len() == 0 {
		return none
	}
	return c.add(n)
}

// carryOut puts what was made, and gives back what it replaces.
func (t *Tree) carryOut(c *change, root int) api.Errno {
	if slices.ContainsFunc(c.made, isAmiss) {
		return api.ErrBad
	}
	put, err := t.putAll(c.made)
	if err != api.OK {
		return err
	}
	t.giveAll(c.old)
	t.root = pageOf(root, put)
	return api.OK
}

// isAmiss: is it a node that can't be read again? It may be, if those it was made of weren't a tree's.
func isAmiss(n node.Node) bool {
	err := n.Check()
	// ErrArg, which comes last, tells only that kids have no pages yet.
	return err != api.OK && err != api.ErrArg
}

// putAll puts nodes on pages: these; beside an error on none.
func (t *Tree) putAll(made []node.Node) ([]int, api.Errno) {
	var put []int
	for _, n := range made {
		for at, kid := range n.Kids {
			n.Kids[at] = pageOf(kid, put)
		}
		id, err := t.store.Put(n.Text())
		if err != api.OK {
			t.giveAll(put)
			return nil, err
		}
		put = append(put, id)
	}
	return put, api.OK
}

// giveAll gives pages back. The store refuses those that are Gone already, as an older root's may be: they stay so.
func (t *Tree) giveAll(ids []int) {
	for _, id := range ids {
		t.store.Give(id)
	}
}
