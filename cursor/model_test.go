package cursor

import (
	"fmt"
	"math"
	"math/rand"
	"slices"
	"strings"
	"testing"

	"armoire/api"
	"armoire/device"
	"armoire/node"
	"armoire/pages"
	"armoire/tree"
)

// formatted: a new store of so many pages.
func formatted(t *testing.T, many int) (*device.Device, *pages.Store) {
	t.Helper()
	l := pages.Layout{Pages: many, Log: 4}
	d, e := device.New(l.Total())
	if e != api.OK {
		t.Fatalf("New: %d", e)
	}
	s, e := pages.Format(d, l)
	if e != api.OK {
		t.Fatalf("Format: %d", e)
	}
	return d, s
}

// seen: all that can be asked of a tree's root, store and device without a change.
func seen(x *tree.Tree) string {
	var b strings.Builder
	s := x.Store()
	d := s.Device()
	fmt.Fprint(&b, x.Root(), s.Super(), s.Layout(), s.Dirty(), d.Loose(), d.Calls(), d.Down(), "\n")
	for id := range s.Len() {
		text, e := s.Read(id)
		fmt.Fprintln(&b, id, s.State(id), text, e)
	}
	return b.String() + strings.Join(d.Image(), "|")
}

// noRoots: numbers of no page of a store of n, or of one that isn't in use.
func noRoots(n int) []int {
	return []int{-2, -3, n - 1, n, n + 1, 128, 255, 1 << 32, math.MinInt, math.MaxInt}
}

// leafOf: one of these keys, each with a value of its own.
func leafOf(keys ...string) node.Node {
	n := node.Node{Leaf: true, Keys: keys}
	for _, key := range keys {
		n.Vals = append(n.Vals, "v"+key)
	}
	return n
}

func innerOf(kids []int, keys ...string) node.Node {
	return node.Node{Keys: keys, Kids: kids}
}

// pagesOf: a store whose first pages, from 0 on, are these texts.
func pagesOf(t *testing.T, many int, texts ...string) (*device.Device, *pages.Store) {
	t.Helper()
	d, s := formatted(t, many)
	for at, text := range texts {
		if id, e := s.Put(text); id != at || e != api.OK {
			t.Fatalf("Put: %d, %d", id, e)
		}
	}
	return d, s
}

// planted: a tree of a new store, in which these were Put in that order.
func planted(t *testing.T, many int, entries []Entry, order []int) *tree.Tree {
	t.Helper()
	_, s := formatted(t, many)
	x := tree.Open(s, -1)
	for _, at := range order {
		if e := x.Put(entries[at].Key, entries[at].Val); e != api.OK {
			t.Fatalf("Put: %d", e)
		}
	}
	return x
}

// wordsOf: so many keys, rising, each once, of a few letters, the lowest and the highest byte among them: many are others' beginnings.
func wordsOf(r *rand.Rand, many int) []string {
	letters := "\x00\x01aabz\xfe\xff\xff"
	var words []string
	for len(words) < many {
		var b []byte
		for range r.Intn(6) {
			b = append(b, letters[r.Intn(len(letters))])
		}
		words = append(words, string(b))
		slices.Sort(words)
		words = slices.Compact(words)
	}
	return words
}

// entriesOf: keys, each with a value of its own.
func entriesOf(keys []string) []Entry {
	var l []Entry
	for _, key := range keys {
		l = append(l, Entry{key, "v" + key})
	}
	return l
}

// some: keys that are there, and what is just beside them.
func some(entries []Entry) []string {
	keys := []string{"", "\x00", "\xff", strings.Repeat("\xff", 24), strings.Repeat("\xff", 30), strings.Repeat("a", 1000)}
	for _, x := range entries {
		keys = append(keys, x.Key, x.Key+"\x00", x.Key+"\xff")
		if x.Key != "" {
			keys = append(keys, x.Key[:len(x.Key)-1], x.Key[:len(x.Key)-1]+string([]byte{x.Key[len(x.Key)-1] - 1}))
		}
	}
	return keys
}

// from: what of rising entries isn't below a key, one by one.
func from(entries []Entry, key string) []Entry {
	var l []Entry
	for _, x := range entries {
		if x.Key >= key {
			l = append(l, x)
		}
	}
	return l
}

// atMost: the first so many.
func atMost(entries []Entry, most int) []Entry {
	if most < 0 {
		return nil
	}
	if most < len(entries) {
		return entries[:most]
	}
	return entries
}

// mustFind: a cursor finds these, and then none any more, however often it is asked.
func mustFind(t *testing.T, what string, c *Cursor, want []Entry) {
	t.Helper()
	for at, w := range want {
		if x, ok, e := c.Next(); x != w || !ok || e != api.OK {
			t.Fatalf("%s: Next %d: %q, %v, %d, not %q", what, at, x, ok, e, w)
		}
	}
	mustEnd(t, what, c)
}

// mustEnd: a cursor stands behind all.
func mustEnd(t *testing.T, what string, c *Cursor) {
	t.Helper()
	for range 3 {
		if x, ok, e := c.Next(); x != (Entry{}) || ok || e != api.OK {
			t.Fatalf("%s: Next at the end: %q, %v, %d", what, x, ok, e)
		}
	}
}

// mustNext: the next call is answered with an error, and nothing else, and the cursor stands behind all.
func mustNext(t *testing.T, what string, c *Cursor, want api.Errno) {
	t.Helper()
	if x, ok, e := c.Next(); x != (Entry{}) || ok || e != want {
		t.Fatalf("%s: Next: %q, %v, %d, not %d", what, x, ok, e, want)
	}
	mustEnd(t, what, c)
}

// mustHave: a tree has just these.
func mustHave(t *testing.T, what string, x *tree.Tree, want []Entry) {
	t.Helper()
	c, e := At(x, "")
	if e != api.OK {
		t.Fatalf("%s: At: %d", what, e)
	}
	mustFind(t, what, c, want)
	for _, w := range want {
		if v, ok, e := x.Get(w.Key); v != w.Val || !ok || e != api.OK {
			t.Fatalf("%s: Get(%q): %q, %v, %d", what, w.Key, v, ok, e)
		}
	}
}
