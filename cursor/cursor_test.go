package cursor

import (
	"fmt"
	"math/rand"
	"slices"
	"strings"
	"testing"

	"armoire/api"
	"armoire/node"
	"armoire/pages"
	"armoire/tree"
)

// P10.1: an empty tree: no page is read.
func TestEmpty(t *testing.T) {
	d, s := formatted(t, 4)
	d.Arm(0)
	d.Flush()
	x := tree.Open(s, -1)
	for _, key := range some(nil) {
		c, e := At(x, key)
		if c == nil || e != api.OK {
			t.Fatalf("At(%q): %d", key, e)
		}
		mustEnd(t, "empty", c)
	}
	for _, most := range []int{-1, 0, 1, 9} {
		if l, e := Range(x, "", "", most); len(l) != 0 || e != api.OK {
			t.Errorf("Range: %v, %d", l, e)
		}
		if l, e := Under(x, "", most); len(l) != 0 || e != api.OK {
			t.Errorf("Under: %v, %d", l, e)
		}
	}
	if n, e := Wipe(x, ""); n != 0 || e != api.OK {
		t.Errorf("Wipe: %d, %d", n, e)
	}
}

// P10.1, P10.2: trees of any size, grown in several orders: from any key on a cursor finds what isn't below it, rising, each once.
func TestSizes(t *testing.T) {
	r := rand.New(rand.NewSource(1))
	for many := range 131 {
		entries := entriesOf(wordsOf(r, many))
		up := make([]int, many)
		for k := range up {
			up[k] = k
		}
		down := slices.Clone(up)
		slices.Reverse(down)
		for name, order := range map[string][]int{"up": up, "down": down, "any": r.Perm(many)} {
			x := planted(t, 128, entries, order)
			was := seen(x)
			for _, key := range some(entries) {
				c, e := At(x, key)
				if e != api.OK {
					t.Fatalf("%d %s: At(%q): %d", many, name, key, e)
				}
				mustFind(t, fmt.Sprintf("%d %s: At(%q)", many, name, key), c, from(entries, key))
			}
			if seen(x) != was {
				t.Fatalf("%d %s: something is changed", many, name)
			}
		}
	}
}

// P10.2: rows of Puts and Deletes at chance, checkpoints among them: behind each a cursor finds just what a plain map has.
func TestRows(t *testing.T) {
	r := rand.New(rand.NewSource(2))
	for range 12 {
		words := wordsOf(r, 20+r.Intn(100))
		_, s := formatted(t, 128)
		x := tree.Open(s, -1)
		has := map[string]string{}
		for k := range 300 {
			key := words[r.Intn(len(words))]
			if r.Intn(5) < 3 {
				has[key] = fmt.Sprint(k)
				if e := x.Put(key, has[key]); e != api.OK {
					t.Fatalf("Put: %d", e)
				}
			} else {
				delete(has, key)
				if _, e := x.Delete(key); e != api.OK {
					t.Fatalf("Delete: %d", e)
				}
			}
			if r.Intn(3) == 0 {
				if e := s.Checkpoint(x.Root(), 1, 1); e != api.OK {
					t.Fatalf("Checkpoint: %d", e)
				}
			}
			var all []Entry
			for _, word := range words {
				if val, ok := has[word]; ok {
					all = append(all, Entry{word, val})
				}
			}
			mustHave(t, "rows", x, all)
			key = words[r.Intn(len(words))]
			c, e := At(x, key)
			if e != api.OK {
				t.Fatalf("At(%q): %d", key, e)
			}
			mustFind(t, key, c, from(all, key))
		}
	}
}

// P10.1, K3: cursors of one tree go their own ways.
func TestApart(t *testing.T) {
	r := rand.New(rand.NewSource(3))
	entries := entriesOf(wordsOf(r, 60))
	x := planted(t, 128, entries, r.Perm(60))
	var all []*Cursor
	for k := range 60 {
		c, e := At(x, entries[k].Key)
		if e != api.OK {
			t.Fatalf("At: %d", e)
		}
		all = append(all, c)
	}
	for step := range 60 {
		for k, c := range all {
			y, ok, e := c.Next()
			if k+step >= 60 {
				if y != (Entry{}) || ok || e != api.OK {
					t.Fatalf("Next: %q, %v, %d", y, ok, e)
				}
			} else if y != entries[k+step] || !ok || e != api.OK {
				t.Fatalf("Next: %q, %v, %d, not %q", y, ok, e, entries[k+step])
			}
		}
	}
}

// P10.1: what a cursor came by it has: the power may be gone, as long as nothing more is to be read; then it is told.
func TestCameBy(t *testing.T) {
	d, s := pagesOf(t, 9, leafOf("a", "b", "c").Text(), leafOf("d", "e").Text(), innerOf([]int{0, 1}, "d").Text())
	if e := s.Checkpoint(2, 1, 1); e != api.OK {
		t.Fatalf("Checkpoint: %d", e)
	}
	x := tree.Open(s, 2)
	c, e := At(x, "b")
	if e != api.OK {
		t.Fatalf("At: %d", e)
	}
	d.Arm(0)
	d.Flush()
	for _, key := range []string{"b", "c"} {
		if y, ok, e := c.Next(); y != (Entry{key, "v" + key}) || !ok || e != api.OK {
			t.Fatalf("Next: %q, %v, %d", y, ok, e)
		}
	}
	mustNext(t, "without power", c, api.ErrDown)
	mustNotGo(t, "without power", x, "b", api.ErrDown)
}

// mustNotGo: each call, from a key on, is answered with an error, and nothing else, and changes nothing.
func mustNotGo(t *testing.T, what string, x *tree.Tree, key string, want api.Errno) {
	t.Helper()
	was := seen(x)
	if c, e := At(x, key); c != nil || e != want {
		t.Errorf("%s: At(%q): %v, %d, not %d", what, key, c, e, want)
	}
	for _, most := range []int{-1, 0, 1, 99} {
		for _, to := range []string{"", key, "z"} {
			if l, e := Range(x, key, to, most); l != nil || e != want {
				t.Errorf("%s: Range(%q, %q, %d): %v, %d, not %d", what, key, to, most, l, e, want)
			}
		}
		if l, e := Under(x, key, most); l != nil || e != want {
			t.Errorf("%s: Under(%q, %d): %v, %d, not %d", what, key, most, l, e, want)
		}
	}
	if n, e := Wipe(x, key); n != 0 || e != want {
		t.Errorf("%s: Wipe(%q): %d, %d, not %d", what, key, n, e, want)
	}
	if seen(x) != was {
		t.Errorf("%s: something is changed", what)
	}
}

// P10.1: roots that are no pages, or no nodes.
func TestNoRoot(t *testing.T) {
	d, s := pagesOf(t, 9, leafOf("a").Text(), "", "x", leafOf("a").Text()+"\x00", strings.Repeat("\xff", 248))
	for _, root := range append(noRoots(9), 5, 6, 7, 8) {
		mustNotGo(t, fmt.Sprint("root ", root), tree.Open(s, root), "a", api.ErrNone)
	}
	for root := 1; root < 5; root++ {
		mustNotGo(t, fmt.Sprint("root ", root), tree.Open(s, root), "a", api.ErrBad)
	}
	mustHave(t, "a leaf", tree.Open(s, 0), entriesOf([]string{"a"}))
	s.Checkpoint(0, 1, 1)
	d.Spoil(2+3, "spoiled")
	mustNotGo(t, "spoiled", tree.Open(s, 0), "a", api.ErrBad)
}

// P10.1: a page on the way that can't be read: At tells it just where its way goes there, Next as soon as it comes there.
func TestWay(t *testing.T) {
	for name, bad := range map[string]struct {
		id   int
		want api.Errno
	}{"not in use": {8, api.ErrNone}, "no page": {100, api.ErrNone}, "no node": {0, api.ErrBad}} {
		_, s := pagesOf(t, 12, "no node", leafOf("a", "b").Text(), leafOf("m", "n").Text(), innerOf([]int{1, bad.id, 2}, "g", "m").Text(), leafOf("x").Text(), leafOf("z").Text(), innerOf([]int{4, 5}, "z").Text(), innerOf([]int{3, 6}, "x").Text())
		x := tree.Open(s, 7)
		for _, key := range []string{"g", "h", "lzz"} {
			mustNotGo(t, name, x, key, bad.want)
		}
		for _, key := range []string{"", "a", "ab", "b", "c", "fzz"} {
			c, e := At(x, key)
			if e != api.OK {
				t.Fatalf("%s: At(%q): %d", name, key, e)
			}
			for _, w := range from(entriesOf([]string{"a", "b"}), key) {
				if y, ok, e := c.Next(); y != w || !ok || e != api.OK {
					t.Fatalf("%s: Next: %q, %v, %d, not %q", name, y, ok, e, w)
				}
			}
			mustNext(t, name, c, bad.want)
		}
		for _, key := range []string{"m", "mm", "n", "nn", "x", "y", "z", "zz"} {
			c, e := At(x, key)
			if e != api.OK {
				t.Fatalf("%s: At(%q): %d", name, key, e)
			}
			mustFind(t, name, c, from(entriesOf([]string{"m", "n", "x", "z"}), key))
		}
	}
}

// P10.1: Range, Under and Wipe meet an error of Next just if they ask for the entry there.
func TestRangeMeets(t *testing.T) {
	_, s := pagesOf(t, 12, "no node", leafOf("a1", "a2", "b1").Text(), innerOf([]int{1, 0}, "g").Text())
	x := tree.Open(s, 2)
	was := seen(x)
	all := entriesOf([]string{"a1", "a2", "b1"})
	mustRange := func(from, to string, most int, want []Entry, e api.Errno) {
		t.Helper()
		l, f := Range(x, from, to, most)
		if !slices.Equal(l, want) || f != e || e != api.OK && l != nil {
			t.Errorf("Range(%q, %q, %d): %q, %d", from, to, most, l, f)
		}
	}
	mustRange("", "", 3, all, api.OK)
	mustRange("", "", 4, nil, api.ErrBad)
	mustRange("", "b1", 4, all[:2], api.OK)
	mustRange("", "c", 3, all, api.OK)
	mustRange("", "c", 4, nil, api.ErrBad)
	mustRange("c", "d", 0, nil, api.OK)
	mustRange("c", "d", 1, nil, api.ErrBad)
	mustRange("b1", "b1", 1, nil, api.OK)
	if l, e := Under(x, "a", 9); !slices.Equal(l, all[:2]) || e != api.OK {
		t.Errorf("Under: %q, %d", l, e)
	}
	if l, e := Under(x, "b", 1); !slices.Equal(l, all[2:]) || e != api.OK {
		t.Errorf("Under: %q, %d", l, e)
	}
	for _, prefix := range []string{"", "b", "c"} {
		if l, e := Under(x, prefix, 9); l != nil || e != api.ErrBad {
			t.Errorf("Under(%q): %q, %d", prefix, l, e)
		}
		if n, e := Wipe(x, prefix); n != 0 || e != api.ErrBad {
			t.Errorf("Wipe(%q): %d, %d", prefix, n, e)
		}
	}
	if seen(x) != was {
		t.Error("something is changed")
	}
}

// chain: a store in which a way has so many nodes: from page 0, a leaf, up, each with a leaf beside its first kid; the root is the last page.
func chain(t *testing.T, deep int, end string) (*pages.Store, int) {
	t.Helper()
	texts := []string{end, leafOf("z").Text()}
	for k := range deep - 1 {
		kid := k + 1
		if k == 0 {
			kid = 0
		}
		texts = append(texts, innerOf([]int{kid, 1}, fmt.Sprintf("m%02d", k)).Text())
	}
	_, s := pagesOf(t, 40, texts...)
	if deep == 1 {
		return s, 0
	}
	return s, len(texts) - 1
}

// P10.1: a way of twelve nodes is gone, one of thirteen isn't; a thirteenth page that can't be read is told as such.
func TestDeep(t *testing.T) {
	for deep := 1; deep < 20; deep++ {
		s, root := chain(t, deep, leafOf("a", "b").Text())
		x := tree.Open(s, root)
		if deep > 12 {
			mustNotGo(t, fmt.Sprint(deep), x, "a", api.ErrBad)
			continue
		}
		c, e := At(x, "")
		if e != api.OK {
			t.Fatalf("%d: At: %d", deep, e)
		}
		want := entriesOf([]string{"a", "b"})
		for range deep - 1 {
			want = append(want, Entry{"z", "vz"})
		}
		mustFind(t, fmt.Sprint(deep), c, want)
	}
	none := innerOf([]int{39, 39}, "a").Text()
	for deep, want := range map[int]api.Errno{11: api.ErrNone, 12: api.ErrNone, 13: api.ErrBad} {
		s, root := chain(t, deep, none)
		mustNotGo(t, fmt.Sprint("none below ", deep), tree.Open(s, root), "a", want)
	}
}

// P10.1: Next, too, goes twelve nodes down, and no more; from there on the cursor stands behind all.
func TestNextDeep(t *testing.T) {
	for deep := 1; deep < 20; deep++ {
		s, low := chain(t, deep, leafOf("n", "o").Text())
		first, _ := s.Put(leafOf("a").Text())
		root, _ := s.Put(innerOf([]int{first, low, first}, "b", "c").Text())
		x := tree.Open(s, root)
		c, e := At(x, "a")
		if e != api.OK {
			t.Fatalf("%d: At: %d", deep, e)
		}
		if y, ok, e := c.Next(); y.Key != "a" || !ok || e != api.OK {
			t.Fatalf("%d: Next: %q, %v, %d", deep, y, ok, e)
		}
		if deep > 11 {
			mustNext(t, fmt.Sprint(deep), c, api.ErrBad)
			continue
		}
		want := entriesOf([]string{"n", "o"})
		for range deep - 1 {
			want = append(want, Entry{"z", "vz"})
		}
		mustFind(t, fmt.Sprint(deep), c, append(want, Entry{"a", "va"}))
	}
}

// P10.1, P1: pages that are their own kids.
func TestRound(t *testing.T) {
	_, s := pagesOf(t, 9, innerOf([]int{0, 0}, "m").Text(), leafOf("a").Text(), innerOf([]int{1, 2}, "m").Text())
	mustNotGo(t, "its own kid", tree.Open(s, 0), "a", api.ErrBad)
	x := tree.Open(s, 2)
	mustNotGo(t, "its own second kid", x, "m", api.ErrBad)
	c, e := At(x, "a")
	if e != api.OK {
		t.Fatalf("At: %d", e)
	}
	for range 11 {
		if y, ok, e := c.Next(); y.Key != "a" || !ok || e != api.OK {
			t.Fatalf("Next: %q, %v, %d", y, ok, e)
		}
	}
	mustNext(t, "its own second kid", c, api.ErrBad)
}

// P10.1: leaves without entries are gone by.
func TestBare(t *testing.T) {
	bare := node.Node{Leaf: true}.Text()
	_, s := pagesOf(t, 9, bare, leafOf("k").Text(), innerOf([]int{0, 0, 0}, "b", "c").Text(), innerOf([]int{2, 0, 1, 0}, "d", "e", "m").Text())
	for _, key := range []string{"", "a", "b", "c", "d", "e", "k"} {
		c, e := At(tree.Open(s, 3), key)
		if e != api.OK {
			t.Fatalf("At: %d", e)
		}
		mustFind(t, key, c, entriesOf([]string{"k"}))
	}
	for root := range map[int]bool{0: true, 2: true} {
		c, e := At(tree.Open(s, root), "")
		if e != api.OK {
			t.Fatalf("At: %d", e)
		}
		mustFind(t, "bare", c, nil)
	}
}
