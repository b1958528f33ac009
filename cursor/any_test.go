package cursor

import (
	"fmt"
	"math/rand"
	"slices"
	"testing"

	"armoire/api"
	"armoire/node"
	"armoire/pages"
	"armoire/space"
	"armoire/tree"
)

// anyNode: a node that may stand on a page, of one-letter keys, whose kids are any of so many pages, mostly of those that were put already, and some beyond.
func anyNode(r *rand.Rand, put, many int) node.Node {
	var keys []string
	for range r.Intn(6) {
		keys = append(keys, string(rune('a'+r.Intn(12))))
	}
	slices.Sort(keys)
	keys = slices.Compact(keys)
	if r.Intn(3) > 0 || len(keys) == 0 {
		return leafOf(keys[:min(len(keys), 4)]...)
	}
	var kids []int
	for range len(keys) + 1 {
		kid := r.Intn(max(put, 1))
		if r.Intn(25) == 0 {
			kid = r.Intn(many + 2)
		}
		kids = append(kids, kid)
	}
	return innerOf(kids, keys...)
}

// anyStore: a store whose pages are nodes, and some others, at chance.
func anyStore(t *testing.T, r *rand.Rand) *pages.Store {
	t.Helper()
	many := 4 + r.Intn(20)
	_, s := formatted(t, many)
	for k := range r.Intn(many + 1) {
		text := anyNode(r, k, many).Text()
		if r.Intn(30) == 0 {
			text = text[:r.Intn(len(text))]
		}
		s.Put(text)
		if r.Intn(8) == 0 {
			s.Checkpoint(-1, 1, 1)
		}
		if r.Intn(20) == 0 {
			s.Give(r.Intn(k + 1))
		}
	}
	return s
}

// anyRoot: a page at chance, mostly one that was put late: these have others below them.
func anyRoot(r *rand.Rand, s *pages.Store) int {
	if r.Intn(4) == 0 {
		return r.Intn(s.Len()+2) - 1
	}
	last := s.Len() - 1 - s.Count(space.Free)
	return max(last-r.Intn(3), -1)
}

// trail is what a cursor should come by, told by the pages' texts: entries, and the error at which it ends.
type trail struct {
	x       *tree.Tree
	entries []Entry
	leaves  int // how many were met ahead of the error
	err     api.Errno
	budget  int // of pages: below 0 the trail isn't told to its end
}

// node: of a page, so many from the root on.
func (w *trail) node(id, deep int) (node.Node, api.Errno) {
	text, e := w.x.Store().Read(id)
	if e != api.OK {
		return node.Node{}, e
	}
	n, e := node.Parse(text)
	if e != api.OK || deep > 12 {
		return node.Node{}, api.ErrBad
	}
	return n, api.OK
}

// follow: what is below a page, from a key on, kid by kid: may it go on?
func (w *trail) follow(id, deep int, key string) bool {
	w.budget--
	if w.budget < 0 {
		return false
	}
	var n node.Node
	if n, w.err = w.node(id, deep); w.err != api.OK {
		return false
	}
	if n.Leaf {
		w.leaves++
		for at, k := range n.Keys {
			if k >= key {
				w.entries = append(w.entries, Entry{k, n.Vals[at]})
			}
		}
		return true
	}
	at := 0
	for at < len(n.Keys) && n.Keys[at] <= key {
		at++
	}
	for ; at < len(n.Kids); at++ {
		if !w.follow(n.Kids[at], deep+1, key) {
			return false
		}
		// Behind the first kid that may have the key all that there is comes.
		key = ""
	}
	return true
}

// trailOf: a tree's, from a key on.
func trailOf(x *tree.Tree, key string) *trail {
	w := &trail{x: x, budget: 3000}
	if x.Root() != -1 {
		w.follow(x.Root(), 1, key)
	} else {
		w.leaves = 1
	}
	return w
}

// mustTrail: At, and Next by Next, come by what the trail has.
func mustTrail(t *testing.T, x *tree.Tree, key string, w *trail) {
	t.Helper()
	c, e := At(x, key)
	if w.leaves == 0 {
		if c != nil || e != w.err {
			t.Fatalf("At(%q): %v, %d, not %d", key, c, e, w.err)
		}
		return
	}
	if c == nil || e != api.OK {
		t.Fatalf("At(%q): %d", key, e)
	}
	for at, want := range w.entries {
		if y, ok, e := c.Next(); y != want || !ok || e != api.OK {
			t.Fatalf("At(%q): Next %d: %q, %v, %d, not %q", key, at, y, ok, e, want)
		}
	}
	if w.budget < 0 {
		return
	}
	if w.err != api.OK {
		mustNext(t, key, c, w.err)
	}
	mustEnd(t, key, c)
}

// mustRangeAs: Range comes by the first ones of the trail, and tells the error if it goes so far.
func mustRangeAs(t *testing.T, x *tree.Tree, low, high string, most int, w *trail) {
	t.Helper()
	var want []Entry
	e, ends := w.err, w.leaves == 0
	for _, y := range w.entries {
		if len(want) >= most || high != "" && y.Key >= high {
			ends, e = true, api.OK
			break
		}
		want = append(want, y)
	}
	if !ends && len(want) >= most {
		e = api.OK
	}
	if e != api.OK {
		want = nil
	}
	l, f := Range(x, low, high, most)
	if !slices.Equal(l, want) || f != e || f != api.OK && l != nil {
		t.Fatalf("Range(%q, %q, %d): %q, %d, not %q, %d", low, high, most, l, f, want, e)
	}
}

// P10.1, P1, P2: any page as root, of a store with any pages: every call ends, and comes by what the pages say, kid by kid, up to the first error.
func TestAnyRoot(t *testing.T) {
	r := rand.New(rand.NewSource(9))
	counts := map[string]int{}
	for range 12000 {
		s := anyStore(t, r)
		x := tree.Open(s, anyRoot(r, s))
		was := seen(x)
		for range 4 {
			key := []string{"", string(rune('a' + r.Intn(13))), string(rune('a'+r.Intn(13))) + "x"}[r.Intn(3)]
			w := trailOf(x, key)
			mustTrail(t, x, key, w)
			if w.budget >= 0 {
				high := []string{"", string(rune('a' + r.Intn(13)))}[r.Intn(2)]
				mustRangeAs(t, x, key, high, r.Intn(len(w.entries)+3)-1, w)
				mustRangeAs(t, x, key, Above(key), 1<<20, w)
			}
			counts[fmt.Sprint(w.leaves > 0, w.err)]++
			if w.budget < 0 {
				counts["long"]++
			}
			if len(w.entries) > 4 {
				counts["more"]++
			}
		}
		if seen(x) != was {
			t.Fatal("something is changed")
		}
	}
	for _, what := range []string{"true 0", "true 8", "true 17", "false 8", "false 17", "more"} {
		if counts[what] < 300 {
			t.Errorf("%s: %v", what, counts)
		}
	}
}

// P10.1, P1: Wipe of any page as root: Under's error, and then nothing is changed; else as if Deletes were called, one behind the other, of which those count that found a key.
func TestAnyWipe(t *testing.T) {
	counts := map[string]int{}
	for seed := range 6000 {
		// Two stores of one seed are the same.
		r, q := rand.New(rand.NewSource(int64(seed))), rand.New(rand.NewSource(int64(seed)))
		s, twin := anyStore(t, r), anyStore(t, q)
		root := anyRoot(r, s)
		x, y := tree.Open(s, root), tree.Open(twin, root)
		prefix := []string{"", string(rune('a' + r.Intn(12)))}[r.Intn(2)]
		if trailOf(x, prefix).budget < 0 {
			continue
		}
		want := 0
		l, f := Under(y, prefix, 1<<20)
		for _, w := range l {
			var gone bool
			if gone, f = y.Delete(w.Key); f != api.OK {
				break
			}
			if gone {
				want++
			}
		}
		n, e := Wipe(x, prefix)
		if n != want || e != f || seen(x) != seen(y) {
			t.Fatalf("%d: Wipe(%q): %d, %d, not %d, %d", seed, prefix, n, e, want, f)
		}
		counts[fmt.Sprint(n > 0, e)]++
		if n < len(l) && e == api.OK {
			counts["less"]++
		}
	}
	for _, what := range []string{"true 0", "false 8", "false 17", "true 7", "less"} {
		if counts[what] < 20 {
			t.Errorf("%s: %v", what, counts)
		}
	}
}
