package tree

import (
	"fmt"
	"slices"
	"strings"
	"testing"

	"armoire/api"
	"armoire/device"
	"armoire/node"
	"armoire/pages"
	"armoire/space"
)

// formatted: a new store of so many pages.
func formatted(t *testing.T, many int) (*device.Device, *pages.Store) {
	t.Helper()
	l := pages.Layout{Pages: many, Log: 4}
	d, e := device.New(l.Total())
	if e != api.OK {
		t.Fatalf("New: %d", e)
	}
	s, e := pages.Format(d, l)
	if e != api.OK {
		t.Fatalf("Format: %d", e)
	}
	return d, s
}

// seen: all that can be asked of a tree's root, store and device without a change.
func seen(x *Tree) string {
	var b strings.Builder
	s := x.Store()
	d := s.Device()
	fmt.Fprint(&b, x.Root(), s.Super(), s.Layout(), s.Dirty(), d.Loose(), d.Calls(), d.Down(), "\n")
	for id := range s.Len() {
		text, e := s.Read(id)
		fmt.Fprintln(&b, id, s.State(id), text, e)
	}
	return b.String() + strings.Join(d.Image(), "|")
}

// plant is a tree as the test keeps it: nested lists, without pages. One without kids is a leaf.
type plant struct {
	keys, vals []string
	kids       []*plant
}

func (p *plant) copy() *plant {
	if p == nil {
		return nil
	}
	c := &plant{slices.Clone(p.keys), slices.Clone(p.vals), nil}
	for _, kid := range p.kids {
		c.kids = append(c.kids, kid.copy())
	}
	return c
}

// garden is a plant (nil: it is empty), and how many nodes the last call made.
type garden struct {
	root *plant
	made int
}

func (g *garden) copy() *garden { return &garden{g.root.copy(), 0} }

// which: the kid that has a key.
func (p *plant) which(key string) int {
	at := 0
	for at < len(p.keys) && p.keys[at] <= key {
		at++
	}
	return at
}

// put: a key has a value: what comes in the plant's place, and the key between, if these are two.
func (g *garden) put(p *plant, key, val string) ([]*plant, []string) {
	if p.kids == nil {
		at := 0
		for at < len(p.keys) && p.keys[at] < key {
			at++
		}
		if at < len(p.keys) && p.keys[at] == key {
			p.vals[at] = val
		} else {
			p.keys = slices.Insert(p.keys, at, key)
			p.vals = slices.Insert(p.vals, at, val)
		}
		if len(p.keys) < 5 {
			g.made++
			return []*plant{p}, nil
		}
		g.made += 2
		a := &plant{keys: slices.Clone(p.keys[:3]), vals: slices.Clone(p.vals[:3])}
		b := &plant{keys: slices.Clone(p.keys[3:]), vals: slices.Clone(p.vals[3:])}
		return []*plant{a, b}, []string{p.keys[3]}
	}
	at := p.which(key)
	kids, keys := g.put(p.kids[at], key, val)
	p.kids = slices.Replace(p.kids, at, at+1, kids...)
	p.keys = slices.Insert(p.keys, at, keys...)
	if len(p.kids) < 7 {
		g.made++
		return []*plant{p}, nil
	}
	g.made += 2
	a := &plant{keys: slices.Clone(p.keys[:3]), kids: slices.Clone(p.kids[:4])}
	b := &plant{keys: slices.Clone(p.keys[4:]), kids: slices.Clone(p.kids[4:])}
	return []*plant{a, b}, []string{p.keys[3]}
}

// Put: a key has a value.
func (g *garden) Put(key, val string) {
	g.made = 0
	if g.root == nil {
		g.root = &plant{}
	}
	parts, keys := g.put(g.root, key, val)
	g.root = parts[0]
	if len(parts) == 2 {
		g.root = &plant{keys: keys, kids: parts}
		g.made++
	}
}

// isPoor: has it too little, for one that is no root?
func (p *plant) isPoor() bool {
	if p.kids == nil {
		return len(p.keys) < 2
	}
	return len(p.kids) < 3
}

// level: two plants beside each other, of which one is poor: what comes in their place, of memory of its own.
func level(a *plant, key string, b *plant) ([]*plant, []string) {
	if a.kids == nil {
		keys, vals := slices.Concat(a.keys, b.keys), slices.Concat(a.vals, b.vals)
		if len(keys) <= 4 {
			return []*plant{{keys: keys, vals: vals}}, nil
		}
		a, b := &plant{keys: keys[:3], vals: vals[:3]}, &plant{keys: keys[3:], vals: vals[3:]}
		return []*plant{a.copy(), b.copy()}, []string{keys[3]}
	}
	keys, kids := slices.Concat(a.keys, []string{key}, b.keys), slices.Concat(a.kids, b.kids)
	if len(kids) <= 6 {
		return []*plant{{keys: keys, kids: kids}}, nil
	}
	a, b = &plant{keys: keys[:3], kids: kids[:4]}, &plant{keys: keys[4:], kids: kids[4:]}
	return []*plant{a.copy(), b.copy()}, []string{keys[3]}
}

// cut: a key that is there has no value any more; the plant may be poor then.
func (g *garden) cut(p *plant, key string) {
	if p.kids == nil {
		at := slices.Index(p.keys, key)
		p.keys = slices.Delete(p.keys, at, at+1)
		p.vals = slices.Delete(p.vals, at, at+1)
		return
	}
	at := p.which(key)
	g.cut(p.kids[at], key)
	if !p.kids[at].isPoor() {
		g.made++
		return
	}
	if at > 0 {
		at--
	}
	kids, keys := level(p.kids[at], p.keys[at], p.kids[at+1])
	g.made += len(kids)
	p.kids = slices.Replace(p.kids, at, at+2, kids...)
	p.keys = slices.Replace(p.keys, at, at+1, keys...)
}

// Delete: a key that is there has no value any more.
func (g *garden) Delete(key string) {
	g.made = 0
	g.cut(g.root, key)
	switch {
	case len(g.root.kids) == 1:
		g.root = g.root.kids[0]
	case len(g.root.keys) == 0:
		g.root = nil
	default:
		g.made++
	}
}

// Get: a key's value.
func (g *garden) Get(key string) (string, bool) {
	for p := g.root; p != nil; p = p.kids[p.which(key)] {
		if p.kids == nil {
			if at := slices.Index(p.keys, key); at >= 0 {
				return p.vals[at], true
			}
			break
		}
	}
	return "", false
}

// all: the entries, rising, as keys and values by turns.
func (p *plant) all() []string {
	var l []string
	if p == nil {
		return nil
	}
	if p.kids == nil {
		for at := range p.keys {
			l = append(l, p.keys[at], p.vals[at])
		}
	}
	for _, kid := range p.kids {
		l = append(l, kid.all()...)
	}
	return l
}

// mustShow: a page, and all below, are just as a plant; their pages are put behind ids.
func mustShow(t *testing.T, x *Tree, id int, p *plant, ids []int) []int {
	t.Helper()
	n, e := x.Load(id)
	if e != api.OK {
		t.Fatalf("Load(%d): %d", id, e)
	}
	if n.Leaf != (p.kids == nil) || !slices.Equal(n.Keys, p.keys) || !slices.Equal(n.Vals, p.vals) || len(n.Kids) != len(p.kids) {
		t.Fatalf("page %d: %+v, not %+v", id, n, p)
	}
	ids = append(ids, id)
	for at, kid := range p.kids {
		ids = mustShow(t, x, n.Kids[at], kid, ids)
	}
	return ids
}

// mustForm: P9.2, told of the pages alone: from a page on, whose keys are from low on ("": any), below high ("": any), so deep: how far it is to the leaves.
func mustForm(t *testing.T, x *Tree, id int, isRoot bool, low, high string) int {
	t.Helper()
	text, _ := x.Store().Read(id)
	n, e := x.Load(id)
	if e != api.OK || n.Check() != api.OK || n.Text() != text {
		t.Fatalf("page %d: %d, %+v", id, e, n)
	}
	if !isRoot && n.Under() || n.Over() || isRoot && !n.Leaf && n.Len() < 2 || isRoot && n.Leaf && n.Len() < 1 {
		t.Fatalf("page %d has %d: %+v", id, n.Len(), n)
	}
	for _, key := range n.Keys {
		if key < low || high != "" && key >= high {
			t.Fatalf("page %d: key %q isn't from %q to %q", id, key, low, high)
		}
	}
	deep := 0
	for at, kid := range n.Kids {
		from, to := low, high
		if at > 0 {
			from = n.Keys[at-1]
		}
		if at < len(n.Keys) {
			to = n.Keys[at]
		}
		far := mustForm(t, x, kid, false, from, to)
		if at > 0 && far != deep {
			t.Fatalf("page %d: its leaves are %d and %d away", id, deep, far)
		}
		deep = far
	}
	return deep + 1
}

// mustBe: P9.1, P9.2: a tree is just as a garden, its form is right, and its pages, and no others, are in use: these.
func mustBe(t *testing.T, what string, x *Tree, g *garden) []int {
	t.Helper()
	var ids []int
	if g.root == nil {
		if x.Root() != -1 {
			t.Fatalf("%s: the root is %d", what, x.Root())
		}
	} else {
		ids = mustShow(t, x, x.Root(), g.root, nil)
		mustForm(t, x, x.Root(), true, "", "")
	}
	slices.Sort(ids)
	var used []int
	for id := range x.Store().Len() {
		if state := x.Store().State(id); state == space.Used || state == space.Fresh {
			used = append(used, id)
		}
	}
	if !slices.Equal(ids, used) {
		t.Fatalf("%s: pages %v are in use, the tree has %v", what, used, ids)
	}
	return ids
}

// mustMove: a change of a tree, held against what it was: a page that is in both has the same text; the others of the tree were Free; all of the way to a key are among these; as many were made as should be.
func mustMove(t *testing.T, what string, x *Tree, key string, made int, texts map[int]string, states []int) {
	t.Helper()
	var fresh []int
	for id := range x.Store().Len() {
		state := x.Store().State(id)
		text, _ := x.Store().Read(id)
		if state == space.Fresh && states[id] == space.Free {
			fresh = append(fresh, id)
			continue
		}
		if was, ok := texts[id]; ok && state != space.Free && text != was {
			t.Fatalf("%s: page %d was written where it stands", what, id)
		}
		if state == space.Fresh && states[id] != space.Fresh || state == space.Used && states[id] != space.Used {
			t.Fatalf("%s: page %d is %d, and was %d", what, id, state, states[id])
		}
	}
	if len(fresh) != made {
		t.Fatalf("%s: %d pages were put, not %d", what, len(fresh), made)
	}
	id := x.Root()
	for id >= 0 {
		if !slices.Contains(fresh, id) {
			t.Fatalf("%s: page %d of the way was there ahead of it", what, id)
		}
		n, _ := x.Load(id)
		if n.Leaf {
			break
		}
		at, _ := n.Find(key)
		id = n.Kids[at]
	}
}

// held: a store's pages as they are: those that can be read, with their texts, and all their states.
func held(x *Tree) (map[int]string, []int) {
	texts, states := map[int]string{}, []int{}
	for id := range x.Store().Len() {
		if text, e := x.Store().Read(id); e == api.OK {
			texts[id] = text
		}
		states = append(states, x.Store().State(id))
	}
	return texts, states
}

// mustPut: a Put is as the garden says, and is refused just if there aren't pages enough; the garden behind it.
func mustPut(t *testing.T, x *Tree, g *garden, key, val string) *garden {
	t.Helper()
	what := fmt.Sprintf("Put(%q, %q)", key, val)
	texts, states := held(x)
	was, free := seen(x), x.Store().Count(space.Free)
	after := g.copy()
	after.Put(key, val)
	e := x.Put(key, val)
	if after.made > free {
		if e != api.ErrFull || seen(x) != was {
			t.Fatalf("%s of %d pages: %d", what, free, e)
		}
		return g
	}
	if e != api.OK {
		t.Fatalf("%s of %d pages, for %d: %d", what, free, after.made, e)
	}
	mustBe(t, what, x, after)
	mustMove(t, what, x, key, after.made, texts, states)
	if v, ok, e := x.Get(key); v != val || !ok || e != api.OK {
		t.Fatalf("%s: %q, %v, %d", what, v, ok, e)
	}
	return after
}

// mustDelete: likewise a Delete.
func mustDelete(t *testing.T, x *Tree, g *garden, key string) *garden {
	t.Helper()
	what := fmt.Sprintf("Delete(%q)", key)
	texts, states := held(x)
	was, free := seen(x), x.Store().Count(space.Free)
	_, there := g.Get(key)
	after := g.copy()
	if there {
		after.Delete(key)
	}
	gone, e := x.Delete(key)
	if !there || after.made > free {
		want := api.OK
		if there {
			want = api.ErrFull
		}
		if gone || e != want || seen(x) != was {
			t.Fatalf("%s of %d pages: %v, %d, not %d", what, free, gone, e, want)
		}
		return g
	}
	if !gone || e != api.OK {
		t.Fatalf("%s of %d pages, for %d: %v, %d", what, free, after.made, gone, e)
	}
	mustBe(t, what, x, after)
	mustMove(t, what, x, key, after.made, texts, states)
	if v, ok, e := x.Get(key); v != "" || ok || e != api.OK {
		t.Fatalf("%s: %q, %v, %d", what, v, ok, e)
	}
	return after
}

// mustGet: all these keys have just the values that a garden says; nothing changes by that.
func mustGet(t *testing.T, x *Tree, g *garden, keys []string) {
	t.Helper()
	was := seen(x)
	for _, key := range keys {
		want, there := g.Get(key)
		if v, ok, e := x.Get(key); v != want || ok != there || e != api.OK {
			t.Fatalf("Get(%q): %q, %v, %d, not %q, %v", key, v, ok, e, want, there)
		}
	}
	if seen(x) != was {
		t.Fatal("Get changes something")
	}
}

// pagesOf: nodes, put on a store's first pages.
func pagesOf(t *testing.T, many int, nodes ...node.Node) (*device.Device, *pages.Store) {
	t.Helper()
	d, s := formatted(t, many)
	for at, n := range nodes {
		if id, e := s.Put(n.Text()); id != at || e != api.OK {
			t.Fatalf("Put: %d, %d", id, e)
		}
	}
	return d, s
}

// leafOf: a leaf of keys, each with a value.
func leafOf(keys ...string) node.Node {
	n := node.Node{Leaf: true}
	for _, key := range keys {
		n.Keys = append(n.Keys, key)
		n.Vals = append(n.Vals, "v"+key)
	}
	return n
}

// innerOf: one of kids, with keys between.
func innerOf(kids []int, keys ...string) node.Node {
	return node.Node{Kids: kids, Keys: keys}
}
