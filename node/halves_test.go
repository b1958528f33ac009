package node

import (
	"fmt"
	"slices"
	"strings"
	"testing"

	"armoire/api"
)

// mustSplit: a node's halves, its first rounded up, with the key between; joined again they are the node.
func mustSplit(t *testing.T, n Node) (Node, string, Node) {
	t.Helper()
	a, key, b := n.Split()
	many := n.Len()
	if a.Leaf != n.Leaf || b.Leaf != n.Leaf || a.Len() != many-many/2 || b.Len() != many/2 {
		t.Fatalf("%#v: %#v, %#v", n, a, b)
	}
	if n.Leaf {
		if key != b.Keys[0] || len(a.Kids)+len(b.Kids) != 0 || !slices.Equal(slices.Concat(a.Vals, b.Vals), n.Vals) || !slices.Equal(slices.Concat(a.Keys, b.Keys), n.Keys) {
			t.Fatalf("%#v: %#v, %#v, %#v", n, a, key, b)
		}
	} else if len(a.Vals)+len(b.Vals) != 0 || !slices.Equal(slices.Concat(a.Kids, b.Kids), n.Kids) || !slices.Equal(slices.Concat(a.Keys, []string{key}, b.Keys), n.Keys) {
		t.Fatalf("%#v: %#v, %#v, %#v", n, a, key, b)
	}
	if len(a.Vals) != len(a.Keys) && n.Leaf || len(a.Keys) != a.Len()-1 && !n.Leaf {
		t.Fatalf("%#v: %#v", n, a)
	}
	if !same(Join(a, key, b), n) {
		t.Fatalf("%#v: joined again %#v", n, Join(a, key, b))
	}
	return a, key, b
}

// P8.3: of all numbers: what is split is joined again.
func TestSplit(t *testing.T) {
	for many := 2; many < 40; many++ {
		mustSplit(t, leafOf(0, many))
		if many >= 4 {
			mustSplit(t, innerOf(50, many))
		}
	}
	// Of one that is Over by one neither is Over, or Under.
	for _, n := range []Node{leafOf(0, 5), innerOf(0, 7)} {
		a, _, b := n.Split()
		for _, half := range []Node{a, b} {
			if half.Over() || half.Under() || half.Check() != api.OK {
				t.Errorf("%#v", half)
			}
		}
	}
}

// P8.1: Split, by hand: the chapter's example, and one of kids.
func TestExample(t *testing.T) {
	n := Node{Leaf: true}
	for _, key := range []string{"a", "b", "c", "d", "e"} {
		n = n.Set(key, strings.ToUpper(key))
	}
	a, key, b := n.Split()
	if !same(a, Node{true, []string{"a", "b", "c"}, []string{"A", "B", "C"}, nil}) || key != "d" || !same(b, Node{true, []string{"d", "e"}, []string{"D", "E"}, nil}) {
		t.Errorf("%#v, %#v, %#v", a, key, b)
	}
	a, key, b = Node{false, []string{"b", "d", "f", "h", "j", "l"}, nil, []int{9, 8, 7, 6, 5, 4, 3}}.Split()
	if !same(a, Node{false, []string{"b", "d", "f"}, nil, []int{9, 8, 7, 6}}) || key != "h" || !same(b, Node{false, []string{"j", "l"}, nil, []int{5, 4, 3}}) {
		t.Errorf("%#v, %#v, %#v", a, key, b)
	}
}

// pair: two nodes beside each other, of so many entries or kids, and the key between.
func pair(leaf bool, a, b int) (Node, string, Node) {
	if leaf {
		// No entry has the key: one that had it may be deleted.
		return leafOf(0, a), "k099", leafOf(100, b)
	}
	return innerOf(0, a), "k099", innerOf(100, b)
}

// joinedOf: two beside each other as one, by hand.
func joinedOf(a Node, key string, b Node) Node {
	n := Node{Leaf: a.Leaf}
	n.Keys = append(n.Keys, a.Keys...)
	if !n.Leaf {
		n.Keys = append(n.Keys, key)
	}
	n.Keys = append(n.Keys, b.Keys...)
	n.Vals = append(append(n.Vals, a.Vals...), b.Vals...)
	n.Kids = append(append(n.Kids, a.Kids...), b.Kids...)
	return n
}

// P8.1, P8.3: Join, Level, Between, of all numbers that may be, and some that are Over.
func TestLevel(t *testing.T) {
	for _, leaf := range []bool{true, false} {
		most, least, start := 4, 2, 0
		if !leaf {
			most, least, start = 6, 3, 2
		}
		for x := start; x < 10; x++ {
			for y := start; y < 10; y++ {
				a, key, b := pair(leaf, x, y)
				what := fmt.Sprintf("leaf %v, %d and %d", leaf, x, y)
				joined := joinedOf(a, key, b)
				if !same(Join(a, key, b), joined) {
					t.Errorf("%s: Join: %#v", what, Join(a, key, b))
				}
				l := Level(a, key, b)
				if x+y <= most {
					if len(l) != 1 || !same(l[0], joined) {
						t.Errorf("%s: Level: %#v", what, l)
					}
				} else {
					first, between, second := mustSplit(t, joined)
					if len(l) != 2 || !same(l[0], first) || !same(l[1], second) || Between(a, key, b) != between {
						t.Errorf("%s: Level: %#v, %#v", what, l, Between(a, key, b))
					}
				}
				for _, n := range l {
					if x <= most && y <= most && n.Over() {
						t.Errorf("%s: %#v is Over", what, n)
					}
					if (x == least-1 && y >= least || y == least-1 && x >= least) && n.Under() {
						t.Errorf("%s: %#v is Under", what, n)
					}
				}
			}
		}
	}
}

// P8.1: Between, of what isn't too much for one: the key of its Split all the same; of next to nothing there is none, and nothing panics.
func TestBetweenFew(t *testing.T) {
	for x := range 4 {
		for y := range 4 {
			a, key, b := pair(true, x, y)
			want := ""
			if all := joinedOf(a, key, b).Keys; len(all) > 1 {
				want = all[(len(all)+1)/2]
			}
			if got := Between(a, key, b); got != want {
				t.Errorf("%d and %d: %#v, not %#v", x, y, got, want)
			}
		}
	}
	if got := Between(innerOf(0, 2), "k050", innerOf(100, 2)); got != "k050" {
		t.Errorf("%#v", got)
	}
	for many := range 4 {
		leafOf(0, many).Split()
		innerOf(0, many).Split()
	}
}

// P8.1: leaves of any lengths of keys and values are set, cut, split, joined as others.
func TestLong(t *testing.T) {
	n := Node{Leaf: true}
	for k := range 9 {
		n = n.Set(strings.Repeat(fmt.Sprint(k), 10*k*k), strings.Repeat("v", 100*k))
	}
	a, key, b := mustSplit(t, n)
	if l := Level(a, key, b); len(l) != 2 || !same(l[0], a) || !same(l[1], b) || Between(a, key, b) != key {
		t.Errorf("%#v", l)
	}
	if n.Check() != api.ErrBig || n.Text() != bytesOf(n) {
		t.Errorf("%d", n.Check())
	}
}

const sentinel = "sentinel"

// roomy: a node of the same, whose lists have room behind them, with something there.
func roomy(n Node) Node {
	texts := func(l []string) []string {
		grown := append(slices.Clone(l), sentinel, sentinel, sentinel)
		return grown[:len(l)]
	}
	kids := append(slices.Clone(n.Kids), -7, -7, -7)
	return Node{n.Leaf, texts(n.Keys), texts(n.Vals), kids[:len(n.Kids)]}
}

// look: all of a node, also what is in the room behind its lists.
func look(n Node) string {
	return fmt.Sprintf("%v %q %q %d, %d, %d, %d", n.Leaf, n.Keys[:cap(n.Keys)], n.Vals[:cap(n.Vals)], n.Kids[:cap(n.Kids)], len(n.Keys), len(n.Vals), len(n.Kids))
}

// scribble: everything that a node's lists have is otherwise, also the room behind.
func scribble(n Node) {
	for _, l := range [][]string{n.Keys[:cap(n.Keys)], n.Vals[:cap(n.Vals)]} {
		for k := range l {
			l[k] = "scribble"
		}
	}
	for k := range n.Kids[:cap(n.Kids)] {
		n.Kids[:cap(n.Kids)][k] = -9
	}
}

// mustStay: a call of two nodes changes neither, and what it answers shares no memory with them, nor with one another.
func mustStay(t *testing.T, what string, a, b Node, call func(a, b Node) []Node) {
	t.Helper()
	a, b = roomy(a), roomy(b)
	wasA, wasB := look(a), look(b)
	answers := call(a, b)
	if look(a) != wasA || look(b) != wasB {
		t.Fatalf("%s: %s, %s are %s, %s", what, wasA, wasB, look(a), look(b))
	}
	for k, n := range answers {
		others := []string{}
		for _, other := range answers[k+1:] {
			others = append(others, look(other))
		}
		// Two lists of one node are apart, too.
		keys := fmt.Sprintf("%#v", n.Keys)
		scribble(Node{Vals: n.Vals, Kids: n.Kids})
		if fmt.Sprintf("%#v", n.Keys) != keys {
			t.Fatalf("%s: two lists share memory", what)
		}
		scribble(n)
		for at, other := range answers[k+1:] {
			if look(other) != others[at] {
				t.Fatalf("%s: two answers share memory", what)
			}
		}
	}
	if look(a) != wasA || look(b) != wasB {
		t.Fatalf("%s: an answer shares memory with a node", what)
	}
	// The other way round: what was answered stays, whatever becomes of the nodes.
	answers = call(a, b)
	told := fmt.Sprintf("%#v", answers)
	scribble(a)
	scribble(b)
	if fmt.Sprintf("%#v", answers) != told {
		t.Fatalf("%s: an answer shares memory with a node", what)
	}
}

// P8.1, K3: no call changes a node that it is asked of, and no answer shares memory with one.
func TestStay(t *testing.T) {
	two := func(a Node, _ string, b Node) []Node { return []Node{a, b} }
	calls := map[string]func(a, b Node) []Node{
		"Len, Over, Under": func(a, b Node) []Node { a.Len(); a.Over(); a.Under(); return nil },
		"Check":            func(a, b Node) []Node { a.Check(); return nil },
		"Text":             func(a, b Node) []Node { a.Text(); return nil },
		"Find":             func(a, b Node) []Node { a.Find("k001"); a.Find("x"); return nil },
		"Set":              func(a, b Node) []Node { return []Node{a.Set("k001", "x")} },
		"Set one more":     func(a, b Node) []Node { return []Node{a.Set("k0005", "x"), a.Set("", "y"), a.Set("z", "z")} },
		"Cut":              func(a, b Node) []Node { return []Node{a.Cut("k000"), a.Cut("k001"), a.Cut("none")} },
		"Split":            func(a, b Node) []Node { return two(a.Split()) },
		"Join":             func(a, b Node) []Node { return []Node{Join(a, "k099", b)} },
		"Level":            func(a, b Node) []Node { return Level(a, "k099", b) },
		"Between":          func(a, b Node) []Node { Between(a, "k099", b); return nil },
	}
	for what, call := range calls {
		for x := range 9 {
			for y := range 9 {
				a, _, b := pair(true, x, y)
				mustStay(t, fmt.Sprintf("%s of leaves of %d and %d", what, x, y), a, b, call)
				if x >= 2 && y >= 2 {
					a, _, b = pair(false, x, y)
					mustStay(t, fmt.Sprintf("%s of %d and %d kids", what, x, y), a, b, call)
				}
			}
		}
	}
	s := leafOf(0, 4).Text()
	n, _ := Parse(s)
	scribble(n)
	if again, e := Parse(s); e != api.OK || !same(again, leafOf(0, 4)) {
		t.Errorf("%#v, %d", again, e)
	}
}
