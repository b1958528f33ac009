package tree

import (
	"fmt"
	"math"
	"slices"
	"strings"
	"testing"

	"armoire/api"
	"armoire/node"
	"armoire/pages"
	"armoire/space"
)

var (
	longKey = strings.Repeat("k", 25)
	longVal = strings.Repeat("v", 33)
)

// noRoots: numbers of no page of a store of n, or of one that isn't in use.
func noRoots(n int) []int {
	return []int{-2, -3, n - 1, n, n + 1, 128, 255, 1 << 32, math.MinInt, math.MaxInt}
}

// fill: a store without a page that is Free: what isn't in use is put, and said to be something else's.
func fill(t *testing.T, s *pages.Store) {
	t.Helper()
	for s.Count(space.Free) > 0 {
		if _, e := s.Put("x"); e != api.OK {
			t.Fatalf("Put: %d", e)
		}
	}
}

// mustFail: all calls of a tree, for a key, are answered with this error, and nothing else, and change nothing.
func mustFail(t *testing.T, what string, x *Tree, key string, want api.Errno) {
	t.Helper()
	was := seen(x)
	if v, ok, e := x.Get(key); v != "" || ok || e != want {
		t.Errorf("%s: Get(%q): %q, %v, %d, not %d", what, key, v, ok, e, want)
	}
	if e := x.Put(key, "v"); e != want {
		t.Errorf("%s: Put(%q): %d, not %d", what, key, e, want)
	}
	mustNotDelete(t, what, x, key, want)
	// What is too long is told ahead of it.
	if e := x.Put(longKey, "v"); e != api.ErrBig {
		t.Errorf("%s: Put of a long key: %d", what, e)
	}
	if e := x.Put(key, longVal); e != api.ErrBig {
		t.Errorf("%s: Put of a long value: %d", what, e)
	}
	if seen(x) != was {
		t.Errorf("%s: something is changed", what)
	}
}

// mustNotDelete: a Delete is answered with this error, and changes nothing.
func mustNotDelete(t *testing.T, what string, x *Tree, key string, want api.Errno) {
	t.Helper()
	was := seen(x)
	if gone, e := x.Delete(key); gone || e != want {
		t.Errorf("%s: Delete(%q): %v, %d, not %d", what, key, gone, e, want)
	}
	if seen(x) != was {
		t.Errorf("%s: something is changed", what)
	}
}

// mustNotPut: likewise a Put.
func mustNotPut(t *testing.T, what string, x *Tree, key string, want api.Errno) {
	t.Helper()
	was := seen(x)
	if e := x.Put(key, "v"); e != want {
		t.Errorf("%s: Put(%q): %d, not %d", what, key, e, want)
	}
	if seen(x) != was {
		t.Errorf("%s: something is changed", what)
	}
}

// P9.1: the chapter's example.
func TestExample(t *testing.T) {
	_, s := formatted(t, 20)
	x, g := Open(s, -1), &garden{}
	for _, key := range []string{"a", "b", "c", "d", "e"} {
		g = mustPut(t, x, g, key, "")
	}
	root, _ := x.Load(x.Root())
	if root.Leaf || !slices.Equal(root.Keys, []string{"d"}) || len(root.Kids) != 2 {
		t.Fatalf("%+v", root)
	}
	a, _ := x.Load(root.Kids[0])
	b, _ := x.Load(root.Kids[1])
	if !slices.Equal(a.Keys, []string{"a", "b", "c"}) || !slices.Equal(b.Keys, []string{"d", "e"}) {
		t.Errorf("%+v, %+v", a, b)
	}
}

// P9.1: Open reads nothing, and takes any root.
func TestOpen(t *testing.T) {
	d, s := formatted(t, 9)
	d.Arm(0)
	d.Flush()
	for _, root := range append(noRoots(9), -1, 0, 5) {
		x := Open(s, root)
		if x == nil || x.Root() != root || x.Store() != s {
			t.Fatalf("Open(%d)", root)
		}
	}
}

// P9.1: Load: each of its errors, and nodes on pages of all states.
func TestLoad(t *testing.T) {
	leaf, inner := leafOf("a", "b"), innerOf([]int{0, 0}, "m")
	d, s := pagesOf(t, 9, leaf, inner)
	for _, text := range []string{"", "x", leaf.Text() + "\x00", strings.Repeat("\xff", 248)} {
		s.Put(text)
	}
	x := Open(s, -1)
	mustLoad := func(what string, id int, want node.Node, e api.Errno) {
		t.Helper()
		was := seen(x)
		n, f := x.Load(id)
		if f != e || n.Leaf != want.Leaf || n.Text() != want.Text() {
			t.Errorf("%s: Load(%d): %+v, %d", what, id, n, f)
		}
		if e != api.OK && (n.Keys != nil || n.Vals != nil || n.Kids != nil) {
			t.Errorf("%s: Load(%d): %+v beside %d", what, id, n, f)
		}
		if seen(x) != was {
			t.Errorf("%s: something is changed", what)
		}
	}
	look := func(what string) {
		t.Helper()
		mustLoad(what, 0, leaf, api.OK)
		mustLoad(what, 1, inner, api.OK)
		for id := 2; id < 6; id++ {
			mustLoad(what, id, node.Node{}, api.ErrBad)
		}
		for _, id := range append(noRoots(9), -1, 6, 7, 8) {
			mustLoad(what, id, node.Node{}, api.ErrNone)
		}
	}
	look("Fresh")
	s.Checkpoint(1, 1, 1)
	look("Used")
	s.Give(0)
	look("Gone")
	d.Spoil(2+4*1+3, "spoiled")
	mustLoad("spoiled", 1, node.Node{}, api.ErrBad)
	d.Arm(0)
	d.Flush()
	for id := range 6 {
		mustLoad("without power", id, node.Node{}, api.ErrDown)
	}
	mustLoad("without power", 6, node.Node{}, api.ErrNone)
	if id, _ := s.Put(leaf.Text()); id != 6 {
		t.Errorf("Put: %d", id)
	}
	mustLoad("without power, but put", 6, leaf, api.OK)
}

// K3: what Load answers is the caller's.
func TestLoadApart(t *testing.T) {
	_, s := pagesOf(t, 9, leafOf("a", "b"))
	x := Open(s, 0)
	n, _ := x.Load(0)
	n.Keys[0], n.Vals[1] = "x", "y"
	if n, e := x.Load(0); e != api.OK || n.Text() != leafOf("a", "b").Text() {
		t.Errorf("%+v, %d", n, e)
	}
}

// P9.1: an empty tree.
func TestEmpty(t *testing.T) {
	_, s := formatted(t, 4)
	x := Open(s, -1)
	was := seen(x)
	for _, key := range []string{"", "a", longKey, strings.Repeat("x", 1000)} {
		if v, ok, e := x.Get(key); v != "" || ok || e != api.OK {
			t.Errorf("Get: %q, %v, %d", v, ok, e)
		}
		mustNotDelete(t, "empty", x, key, api.OK)
	}
	if seen(x) != was {
		t.Error("something is changed")
	}
	g := mustPut(t, x, &garden{}, "", "")
	mustGet(t, x, g, []string{"", "a"})
	g = mustDelete(t, x, g, "")
	mustBe(t, "empty again", x, g)
}

// P9.1: Put: what is too long, and what just isn't; Get and Delete of keys that are too long find none.
func TestLong(t *testing.T) {
	_, s := formatted(t, 40)
	x, g := Open(s, -1), &garden{}
	for k := range 9 {
		g = mustPut(t, x, g, strings.Repeat(fmt.Sprint(k), 24), strings.Repeat("v", 32))
	}
	was := seen(x)
	for _, n := range []int{25, 26, 24 + 256, 1000} {
		key := strings.Repeat("4", n)
		if e := x.Put(key, ""); e != api.ErrBig {
			t.Errorf("Put of a key of %d: %d", n, e)
		}
		if v, ok, e := x.Get(key); v != "" || ok || e != api.OK {
			t.Errorf("Get: %q, %v, %d", v, ok, e)
		}
		mustNotDelete(t, "long", x, key, api.OK)
	}
	for _, n := range []int{33, 34, 32 + 256, 1000} {
		for _, key := range []string{"a", strings.Repeat("4", 24)} {
			if e := x.Put(key, strings.Repeat("v", n)); e != api.ErrBig {
				t.Errorf("Put of a value of %d: %d", n, e)
			}
		}
	}
	if seen(x) != was {
		t.Error("something is changed")
	}
	mustBe(t, "long", x, g)
}

// P9.1, P9.3: any page as root: those of no node.
func TestNoRoot(t *testing.T) {
	_, s := formatted(t, 9)
	for _, root := range append(noRoots(9), 0, 3) {
		mustFail(t, fmt.Sprint("root ", root), Open(s, root), "a", api.ErrNone)
	}
	for _, text := range []string{"", "x", "\x00", leafOf("a").Text() + "x"} {
		id, _ := s.Put(text)
		mustFail(t, "no node", Open(s, id), "a", api.ErrBad)
	}
}

// P9.1, P9.3: an error below the root, on the way to some keys only.
func TestWay(t *testing.T) {
	_, s := pagesOf(t, 9, innerOf([]int{1, 2, 7, 100}, "f", "m", "s"), leafOf("a", "b", "c"))
	s.Put("no node")
	x := Open(s, 0)
	for key, want := range map[string]api.Errno{"f": api.ErrBad, "l": api.ErrBad, "m": api.ErrNone, "n": api.ErrNone, "s": api.ErrNone, "z": api.ErrNone} {
		mustFail(t, "below the root", x, key, want)
	}
	for key, want := range map[string]string{"a": "va", "b": "vb", "c": "vc"} {
		if v, ok, e := x.Get(key); v != want || !ok || e != api.OK {
			t.Errorf("Get(%q): %q, %v, %d", key, v, ok, e)
		}
	}
	mustNotDelete(t, "not there", x, "e", api.OK)
	if e := x.Put("b", "w"); e != api.OK {
		t.Errorf("Put: %d", e)
	}
	if v, ok, e := x.Get("b"); v != "w" || !ok || e != api.OK {
		t.Errorf("Get: %q, %v, %d", v, ok, e)
	}
	mustFail(t, "still", x, "n", api.ErrNone)
	// An error on the way comes ahead of ErrFull.
	fill(t, s)
	mustFail(t, "full", x, "f", api.ErrBad)
	mustFail(t, "full", x, "z", api.ErrNone)
	mustNotPut(t, "full", x, "a", api.ErrFull)
	mustNotDelete(t, "full", x, "a", api.ErrFull)
	mustNotDelete(t, "full, not there", x, "aa", api.OK)
}

// P9.1, P9.3: without power, and with a page that was spoiled.
func TestDevice(t *testing.T) {
	d, s := formatted(t, 40)
	x, g := Open(s, -1), &garden{}
	keys := []string{}
	for k := range 20 {
		keys = append(keys, fmt.Sprintf("k%02d", k))
		g = mustPut(t, x, g, keys[k], "v")
	}
	s.Checkpoint(x.Root(), 1, 1)
	mustGet(t, x, g, keys)
	root, _ := x.Load(x.Root())
	d.Spoil(2+4*root.Kids[0], "spoiled")
	mustFail(t, "spoiled", x, "k00", api.ErrBad)
	mustGet(t, x, g, keys[18:])
	d.Arm(0)
	d.Flush()
	mustFail(t, "without power", x, "k00", api.ErrDown)
	mustFail(t, "without power", x, "k19", api.ErrDown)
	// Pages that were put, and aren't written yet, need no power.
	d, s = formatted(t, 40)
	x, g = Open(s, -1), &garden{}
	d.Arm(0)
	d.Flush()
	for k := range 20 {
		g = mustPut(t, x, g, keys[k], "v")
	}
	for k := range 20 {
		g = mustDelete(t, x, g, keys[k])
	}
}

// chain: a store with nodes of one kid's way, each the first kid of the one ahead, and a leaf of these keys at last; the first one is the root.
func chain(t *testing.T, deep int, keys ...string) *pages.Store {
	t.Helper()
	_, s := formatted(t, 60)
	for k := range deep - 1 {
		// The other kids are no pages that are in use; the keys are below those of the node ahead.
		c := string(rune('z' - k))
		s.Put(innerOf([]int{k + 1, 50, 51, 52, 53, 54}, c, c+"1", c+"2", c+"3", c+"4").Text())
	}
	s.Put(leafOf(keys...).Text())
	return s
}

// P9.1: a way of 12 nodes is gone, one of 13 isn't.
func TestDeep(t *testing.T) {
	for deep := 1; deep <= 14; deep++ {
		x := Open(chain(t, deep, "a", "b", "c"), 0)
		if deep > 12 {
			mustFail(t, fmt.Sprint(deep, " nodes"), x, "a", api.ErrBad)
			continue
		}
		if v, ok, e := x.Get("b"); v != "vb" || !ok || e != api.OK {
			t.Errorf("%d nodes: Get: %q, %v, %d", deep, v, ok, e)
		}
		if e := x.Put("b", "w"); e != api.OK {
			t.Errorf("%d nodes: Put: %d", deep, e)
		}
		if gone, e := x.Delete("c"); !gone || e != api.OK {
			t.Errorf("%d nodes: Delete: %v, %d", deep, gone, e)
		}
		if v, ok, e := x.Get("b"); v != "w" || !ok || e != api.OK {
			t.Errorf("%d nodes: Get: %q, %v, %d", deep, v, ok, e)
		}
		if x.Store().Count(space.Fresh) != deep {
			t.Errorf("%d nodes: %d pages are in use", deep, x.Store().Count(space.Fresh))
		}
	}
}

// P9.1: the error of a thirteenth page that can't be read is told as such.
func TestDeepNone(t *testing.T) {
	s := chain(t, 13, "a")
	s.Give(12)
	mustFail(t, "no thirteenth page", Open(s, 0), "a", api.ErrNone)
}

// P9.1: pages that are their own kids, or each other's.
func TestRound(t *testing.T) {
	_, s := pagesOf(t, 60, innerOf([]int{0, 1}, "m"), innerOf([]int{2, 3}, "f"), innerOf([]int{1, 3}, "c"), leafOf("x", "y"))
	for _, c := range []struct {
		root int
		key  string
	}{{0, "a"}, {1, "a"}, {2, "a"}, {1, "b"}} {
		mustFail(t, "round", Open(s, c.root), c.key, api.ErrBad)
	}
	if v, ok, e := Open(s, 0).Get("x"); v != "vx" || !ok || e != api.OK {
		t.Errorf("Get: %q, %v, %d", v, ok, e)
	}
}

// P9.1: a Put that would lay a thirteenth node above a way is refused: its key couldn't be found.
func TestTooHigh(t *testing.T) {
	for deep := 1; deep <= 12; deep++ {
		x := Open(chain(t, deep, "a", "b", "c", "d"), 0)
		if deep == 12 {
			mustNotPut(t, "12 full nodes", x, "e", api.ErrBad)
			continue
		}
		if e := x.Put("e", "w"); e != api.OK {
			t.Errorf("%d full nodes: %d", deep, e)
		}
		if v, ok, e := x.Get("e"); v != "w" || !ok || e != api.OK {
			t.Errorf("%d full nodes: %q, %v, %d", deep, v, ok, e)
		}
		if x.Store().Count(space.Fresh) != 2*deep+1 {
			t.Errorf("%d full nodes: %d pages", deep, x.Store().Count(space.Fresh))
		}
	}
}

// P9.1, P9.3: Delete: an error of the one beside a node that is Under; it comes ahead of ErrFull, also from far above.
func TestBeside(t *testing.T) {
	few, many := leafOf("a", "b"), leafOf("a", "b", "c")
	last := leafOf("x", "y")
	cases := []struct {
		what  string
		nodes []node.Node
		key   string
		want  api.Errno
	}{
		{"no page behind", []node.Node{innerOf([]int{1, 100}, "m"), few}, "a", api.ErrNone},
		{"no page ahead", []node.Node{innerOf([]int{100, 1}, "m"), last}, "x", api.ErrNone},
		{"no page ahead, one behind", []node.Node{innerOf([]int{100, 1, 2}, "m", "z"), last, leafOf("z", "zz")}, "x", api.ErrNone},
		{"another sort behind", []node.Node{innerOf([]int{1, 2}, "m"), few, innerOf([]int{1, 3}, "t"), last}, "a", api.ErrBad},
		{"another sort ahead", []node.Node{innerOf([]int{2, 1}, "m"), last, innerOf([]int{3, 3}, "c"), few}, "x", api.ErrBad},
		{"another sort behind, of many keys", []node.Node{innerOf([]int{1, 2}, "m"), few, innerOf([]int{3, 3, 3, 3, 3, 3}, "n", "o", "p", "q", "r"), last}, "a", api.ErrBad},
		{"another sort ahead, of many keys", []node.Node{innerOf([]int{2, 1}, "m"), last, innerOf([]int{3, 3, 3, 3, 3, 3}, "a", "b", "c", "d", "e"), few}, "x", api.ErrBad},
		{"the same page", []node.Node{innerOf([]int{1, 1}, "m"), leafOf("a")}, "a", api.ErrBad},
		{"the root behind", []node.Node{innerOf([]int{1, 0}, "m"), few}, "a", api.ErrBad},
		{"keys of the wrong side behind", []node.Node{innerOf([]int{1, 2}, "m"), few, leafOf("a", "n")}, "a", api.ErrBad},
		{"keys of the wrong side ahead", []node.Node{innerOf([]int{2, 1}, "m"), last, leafOf("a", "m")}, "x", api.ErrBad},
		{"far above", []node.Node{
			innerOf([]int{1, 100}, "p"), innerOf([]int{2, 3}, "c"), few, leafOf("c", "d"),
		}, "a", api.ErrNone},
		{"far above, another sort", []node.Node{
			innerOf([]int{1, 4}, "p"), innerOf([]int{2, 3}, "c"), few, leafOf("c", "d"), last,
		}, "a", api.ErrBad},
	}
	for _, c := range cases {
		_, s := pagesOf(t, 40, c.nodes...)
		x := Open(s, 0)
		mustNotDelete(t, c.what, x, c.key, c.want)
		fill(t, s)
		mustNotDelete(t, c.what+", full", x, c.key, c.want)
	}
	// What isn't Under needs nothing beside it.
	_, s := pagesOf(t, 40, innerOf([]int{1, 100}, "m"), many)
	if gone, e := Open(s, 0).Delete("a"); !gone || e != api.OK {
		t.Errorf("Delete: %v, %d", gone, e)
	}
}

// P9.3: a change of pages that no tree wrote, whose node couldn't be read again, is refused: ErrBad, also ahead of ErrFull.
func TestUnreadable(t *testing.T) {
	put := []node.Node{innerOf([]int{1, 2}, "m"), leafOf("w", "x", "y", "z"), leafOf("n", "o")}
	level := []node.Node{innerOf([]int{1, 2, 3}, "m", "p"), leafOf("a", "b"), leafOf("w", "x", "y", "z"), leafOf("q", "r")}
	for _, full := range []bool{false, true} {
		_, s := pagesOf(t, 40, put...)
		if full {
			fill(t, s)
		}
		mustNotPut(t, "halves out of place", Open(s, 0), "a", api.ErrBad)
		_, s = pagesOf(t, 40, level...)
		if full {
			fill(t, s)
		}
		mustNotDelete(t, "levelled out of place", Open(s, 0), "a", api.ErrBad)
	}
}

// P9.1: nodes that have less than they should, on pages that no tree wrote: a root without entries, and leaves that are Under.
func TestPoor(t *testing.T) {
	_, s := pagesOf(t, 20, leafOf())
	x := Open(s, 0)
	mustNotDelete(t, "no entries", x, "a", api.OK)
	if v, ok, e := x.Get("a"); v != "" || ok || e != api.OK {
		t.Errorf("Get: %q, %v, %d", v, ok, e)
	}
	if e := x.Put("a", "va"); e != api.OK {
		t.Errorf("Put: %d", e)
	}
	mustBe(t, "an entry", x, &garden{&plant{keys: []string{"a"}, vals: []string{"va"}}, 0})
	for _, c := range []struct {
		beside node.Node
		want   []string
	}{{leafOf("x"), []string{"x"}}, {leafOf(), nil}} {
		_, s := pagesOf(t, 20, innerOf([]int{1, 2}, "m"), leafOf("a"), c.beside)
		x := Open(s, 0)
		if gone, e := x.Delete("a"); !gone || e != api.OK {
			t.Errorf("Delete: %v, %d", gone, e)
		}
		if c.want == nil {
			mustBe(t, "nothing is left", x, &garden{})
		} else {
			mustBe(t, "x is left", x, &garden{&plant{keys: c.want, vals: []string{"vx"}}, 0})
		}
	}
}

// P9.1, P9.2: an older root's tree is read while its pages stand; a Put there makes pages of its own, and no error of what is Gone already.
func TestOlder(t *testing.T) {
	_, s := formatted(t, 60)
	x, g := Open(s, -1), &garden{}
	keys := []string{}
	for k := range 25 {
		keys = append(keys, fmt.Sprintf("k%02d", k))
		g = mustPut(t, x, g, keys[k], "old")
	}
	s.Checkpoint(x.Root(), 1, 1)
	older, was := Open(s, x.Root()), g
	for k := range 25 {
		if k%2 == 0 {
			g = mustDelete(t, x, g, keys[k])
		} else {
			g = mustPut(t, x, g, keys[k], "new")
		}
		mustGet(t, older, was, keys)
	}
	mustGet(t, x, g, keys)
	if e := older.Put("k03", "third"); e != api.OK {
		t.Errorf("Put: %d", e)
	}
	if v, ok, e := older.Get("k03"); v != "third" || !ok || e != api.OK {
		t.Errorf("Get: %q, %v, %d", v, ok, e)
	}
	mustGet(t, x, g, keys)
}

// K4: the same calls make the same pages.
func TestAgain(t *testing.T) {
	row := func() string {
		_, s := formatted(t, 100)
		x := Open(s, -1)
		for k := range 120 {
			x.Put(fmt.Sprint("k", k*37%61), fmt.Sprint(k))
			if k%3 == 0 {
				x.Delete(fmt.Sprint("k", k*13%61))
			}
		}
		return seen(x)
	}
	once := row()
	for range 5 {
		if row() != once {
			t.Fatal("not the same")
		}
	}
}
