package node

import "slices"

// Split: one that has too many, in two, the first one with the half, rounded up, and the key between.
func (n Node) Split() (Node, string, Node) {
	all := n.whole()
	if all.Len() < 2 {
		// Between may be asked of two that have next to nothing.
		return all, "", Node{Leaf: n.Leaf}
	}
	half := (all.Len() + 1) / 2
	key := all.Keys[half-1]
	if n.Leaf {
		key = all.Keys[half]
	}
	return all.part(0, half), key, all.part(half, all.Len())
}

// part is one with its entries, or kids, from a place on, up to another.
func (n Node) part(from, to int) Node {
	if n.Leaf {
		return Node{Leaf: true, Keys: slices.Clone(n.Keys[from:to]), Vals: slices.Clone(n.Vals[from:to])}
	}
	return Node{Keys: slices.Clone(n.Keys[from : to-1]), Kids: slices.Clone(n.Kids[from:to])}
}

// Join: two beside each other, with the key between, as one.
func Join(a Node, key string, b Node) Node {
	if a.Leaf {
		return Node{Leaf: true, Keys: slices.Concat(a.Keys, b.Keys), Vals: slices.Concat(a.Vals, b.Vals)}
	}
	return Node{Keys: slices.Concat(a.Keys, []string{key}, b.Keys), Kids: slices.Concat(a.Kids, b.Kids)}
}

// Level: two beside each other, of which one has too few: one, or, if that were too many, two that have their share.
func Level(a Node, key string, b Node) []Node {
	joined := Join(a, key, b)
	if !joined.Over() {
		return []Node{joined}
	}
	first, _, second := joined.Split()
	return []Node{first, second}
}

// Between: the key between two leaves, or others, that are made of one (Level's).
func Between(a Node, key string, b Node) string {
	_, between, _ := Join(a, key, b).Split()
	return between
}
