package names

import (
	"fmt"
	"math"
	"math/rand"
	"slices"
	"strings"
	"testing"

	"armoire/api"
	"armoire/cursor"
	"armoire/node"
	"armoire/pages"
	"armoire/tree"
	"armoire/value"
)

// leafOf: of these entries.
func leafOf(l ...cursor.Entry) node.Node {
	n := node.Node{Leaf: true}
	for _, entry := range l {
		n = n.Set(entry.Key, entry.Val)
	}
	return n
}

// pagesOf: a store whose first pages, from 0 on, are these nodes.
func pagesOf(t *testing.T, many int, nodes ...node.Node) *pages.Store {
	t.Helper()
	s := formatted(t, many)
	for at, n := range nodes {
		if id, e := s.Put(n.Text()); id != at || e != api.OK {
			t.Fatalf("Put: %d, %d", id, e)
		}
	}
	return s
}

// mustFail: each call answers that error, and nothing else, and changes nothing.
func mustFail(t *testing.T, what string, x *tree.Tree, want api.Errno) {
	t.Helper()
	for _, name := range few {
		mustRefuse(t, what, x, name, want)
		for kind := 1; kind <= 7; kind++ {
			s := value.New(kind)
			for range 2 {
				was := seen(x)
				if e := Store(x, name, s); e != want || seen(x) != was {
					t.Fatalf("%s: Store(%q): %d, not %d", what, name, e, want)
				}
				if kind != value.Counter && kind != value.Account {
					s = s.With(value.Row{Key: "a"})
				}
			}
		}
	}
}

// P19.1: roots that are no page, or no node.
func TestBadRoot(t *testing.T) {
	s := pagesOf(t, 30, leafOf())
	for _, root := range []int{-2, 1, 2, 29, 30, 128, math.MinInt, math.MaxInt} {
		mustFail(t, fmt.Sprint("root ", root), tree.Open(s, root), api.ErrNone)
	}
	for at, text := range []string{"", "?", "\x01\x01\x01\x01", leafOf().Text() + "\x00", "\x01\x02\x00\x00"} {
		if id, e := s.Put(text); id != at+1 || e != api.OK {
			t.Fatalf("Put: %d, %d", id, e)
		}
		mustFail(t, fmt.Sprintf("root %q", text), tree.Open(s, at+1), api.ErrBad)
	}
	s = pagesOf(t, 30, node.Node{Keys: []string{"m"}, Kids: []int{0, 0}})
	mustFail(t, "root that is its own kid", tree.Open(s, 0), api.ErrBad)
}

// P19.1: a device whose power is gone, and one that was spoilt.
func TestBadDevice(t *testing.T) {
	for _, want := range []api.Errno{api.ErrDown, api.ErrBad} {
		x := planted(t, 30)
		for _, name := range few[:5] {
			mustStore(t, x, name, value.State{Kind: value.Queue, Rows: rows("a", "b")})
		}
		s := x.Store()
		if e := s.Checkpoint(x.Root(), 1, 1); e != api.OK {
			t.Fatalf("Checkpoint: %d", e)
		}
		if want == api.ErrDown {
			s.Device().Arm(0)
			s.Device().Flush()
		} else {
			s.Device().Spoil(2+4*x.Root(), "spoilt")
		}
		mustFail(t, "device", x, want)
	}
}

// split: a tree of two leaves, with a key between, and the page of either one being that: a number of none that is in use, or one that is no node.
func split(t *testing.T, below, above node.Node, key string, instead map[int]int) *tree.Tree {
	t.Helper()
	s := pagesOf(t, 40, below, above)
	kids := []int{0, 1}
	for at, id := range instead {
		kids[at] = id
	}
	root, _ := s.Put(node.Node{Keys: []string{key}, Kids: kids}.Text())
	s.Put("?")
	return tree.Open(s, root)
}

// noPage isn't in use, noNode is no node, in a store that split makes.
const noPage, noNode = 39, 3

// P19.1: an error of the tree on the way to the pieces, behind a head that can be read; also where that says nothing.
func TestPiecesUnread(t *testing.T) {
	for id, want := range map[int]api.Errno{noPage: api.ErrNone, noNode: api.ErrBad} {
		for _, name := range few {
			for _, head := range []string{plainHead(6, 0, 0), plainHead(6, 0, 2), "", "?"} {
				x := split(t, leafOf(cursor.Entry{Key: headAt(name), Val: head}), leafOf(), name+"\x00\x01r", map[int]int{1: id})
				mustRefuse(t, "pieces", x, name, want)
				for _, s := range []value.State{value.New(value.Queue), {Kind: value.Counter, N: 5}, {Kind: value.Set, Rows: rows("a")}} {
					was := seen(x)
					if e := Store(x, name, s); e != want || seen(x) != was {
						t.Errorf("Store(%q, %+v): %d, not %d", name, s, e, want)
					}
				}
				// Here the pieces are there, but not all that is behind them.
				x = split(t, leafOf(entriesOf(name, value.State{Kind: value.Queue, Rows: rows("a", "b")})...), leafOf(), name+"\x00\x01r\x05", map[int]int{1: id})
				mustRefuse(t, "behind the pieces", x, name, want)
			}
			x := split(t, leafOf(), leafOf(), name+"\x00\x01r", map[int]int{1: id})
			mustLoad(t, x, name, value.State{}, false)
		}
	}
}

// P19.1: an error of the tree on the way to the head: Store has put the pieces by then.
func TestHeadUnread(t *testing.T) {
	queue := value.State{Kind: value.Queue, Rows: rows("a", "b", "c")}
	for id, want := range map[int]api.Errno{noPage: api.ErrNone, noNode: api.ErrBad} {
		for _, name := range few {
			grown := func() *tree.Tree {
				return split(t, leafOf(), leafOf(entriesOf(name, queue)[1:]...), name+"\x00\x01r", map[int]int{0: id})
			}
			x, y := grown(), grown()
			mustRefuse(t, "head", x, name, want)
			was := seen(x)
			if e := Store(x, name, queue); e != want || seen(x) != was {
				t.Errorf("Store(%q): %d, not %d", name, e, want)
			}
			if e := Store(x, name, value.State{Kind: value.Queue, Rows: rows("a", "x", "c", "d")}); e != want {
				t.Errorf("Store(%q): %d, not %d", name, e, want)
			}
			y.Put(pieceAt(name, 1), plainText("x"))
			y.Put(pieceAt(name, 3), plainText("d"))
			if seen(x) != seen(y) {
				t.Errorf("Store(%q): the pieces aren't put", name)
			}
		}
	}
}

// P19.1: an error of the tree where pieces that are too many are Deleted: the ones ahead of it are.
func TestDeleteFails(t *testing.T) {
	queue := value.State{Kind: value.Queue, Rows: rows("a", "b", "c")}
	for id, want := range map[int]api.Errno{noPage: api.ErrNone, noNode: api.ErrBad} {
		grown := func() *tree.Tree {
			// The leaf is levelled with the one ahead of it, which can't be read, as soon as it is Under.
			return split(t, leafOf(), leafOf(entriesOf("a", queue)...), "a\x00\x01h", map[int]int{0: id})
		}
		x, y := grown(), grown()
		if e := Store(x, "a", value.New(value.Queue)); e != want {
			t.Errorf("Store: %d, not %d", e, want)
		}
		y.Delete(pieceAt("a", 0))
		y.Delete(pieceAt("a", 1))
		if seen(x) != seen(y) {
			t.Error("other pieces are Deleted")
		}
		for n, want := range []bool{false, false, true} {
			if _, there, e := x.Get(pieceAt("a", n)); there != want || e != api.OK {
				t.Errorf("piece %d: %v, %d", n, there, e)
			}
		}
		mustRefuse(t, "cut", x, "a", api.ErrBad)
	}
}

// anyNode: of few keys about those of the object "a"; its kids are any of some pages, mostly of those that were put already.
func anyNode(r *rand.Rand, put int) node.Node {
	keys := []string{"a", headAt("a"), "a\x00\x01r", pieceAt("a", 0), pieceAt("a", 1), pieceAt("a", 2), pieceAt("a", 3), "a\x00\x01s", "b"}
	var some []string
	for _, key := range keys {
		if r.Intn(4) == 0 {
			some = append(some, key)
		}
	}
	if r.Intn(3) > 0 || len(some) == 0 || put == 0 {
		n := node.Node{Leaf: true}
		for _, key := range some[:min(len(some), 4)] {
			val := plainText(strings.Repeat("x", r.Intn(3)))
			if key == headAt("a") {
				val = plainHead(4+r.Intn(4), 0, r.Intn(3))
			}
			n = n.Set(key, val)
		}
		return n
	}
	n := node.Node{Keys: some[:min(len(some), 5)]}
	for range len(n.Keys) + 1 {
		kid := r.Intn(put)
		if r.Intn(20) == 0 {
			kid = r.Intn(14)
		}
		n.Kids = append(n.Kids, kid)
	}
	return n
}

// anyTree: a root at chance of a store whose pages are nodes at chance.
func anyTree(t *testing.T, r *rand.Rand) *tree.Tree {
	t.Helper()
	s := formatted(t, 12)
	many := 1 + r.Intn(8)
	for put := range many {
		s.Put(anyNode(r, put).Text())
	}
	if r.Intn(3) == 0 {
		s.Checkpoint(-1, 1, 1)
	}
	return tree.Open(s, max(many-1-r.Intn(3), -1))
}

// plainStore: the chapter's words, call by call.
func plainStore(x *tree.Tree, name string, s value.State) api.Errno {
	put := func(key, val string) api.Errno {
		if old, there, e := x.Get(key); e != api.OK || there && old == val {
			return e
		}
		return x.Put(key, val)
	}
	var keys []string
	for n, piece := range plainPieces(s) {
		keys = append(keys, pieceAt(name, n))
		if e := put(keys[n], piece); e != api.OK {
			return e
		}
	}
	l, e := cursor.Under(x, name+"\x00\x01r", 1<<30)
	if e != api.OK {
		return e
	}
	for _, entry := range l {
		if slices.Contains(keys, entry.Key) {
			continue
		}
		if _, e := x.Delete(entry.Key); e != api.OK {
			return e
		}
	}
	return put(headAt(name), plainHead(s.Kind, s.N, len(s.Rows)))
}

// P19.1, P1: of any page as root, of a store with any pages, every call ends, and comes to what the tree and the cursor say.
func TestAnyRoot(t *testing.T) {
	counts := map[string]int{}
	for seed := range 8000 {
		r, q := rand.New(rand.NewSource(int64(seed))), rand.New(rand.NewSource(int64(seed)))
		x, y := anyTree(t, r), anyTree(t, q)
		head, there, want := y.Get(headAt("a"))
		var pieces []cursor.Entry
		if there {
			pieces, want = cursor.Under(y, "a\x00\x01r", 1<<30)
		}
		var s value.State
		if there && want == api.OK {
			s, there, want = plainLoad(head, pieces)
		} else {
			there = false
		}
		if got, is, e := Load(x, "a"); !got.Same(s) || is != there || e != want || seen(x) != seen(y) {
			t.Fatalf("%d: Load: %+v, %v, %d, not %+v, %v, %d", seed, got, is, e, s, there, want)
		}
		counts[fmt.Sprint("Load ", there, want)]++
		next := anyState(r, 1+r.Intn(7))
		want = plainStore(y, "a", next)
		if e := Store(x, "a", next); e != want || seen(x) != seen(y) {
			t.Fatalf("%d: Store(%+v): %d, not %d", seed, next, e, want)
		}
		counts[fmt.Sprint("Store ", want)]++
	}
	for _, what := range []string{"Load true 0", "Load false 0", "Load false 8", "Load false 17", "Store 0", "Store 7", "Store 8", "Store 17"} {
		if counts[what] < 60 {
			t.Errorf("%s: %v", what, counts)
		}
	}
}

// P1: pages that stand at very many places: Load ends.
func TestSharedPages(t *testing.T) {
	s := formatted(t, 40)
	s.Put(leafOf(cursor.Entry{Key: headAt("a"), Val: plainHead(6, 0, 1)}, cursor.Entry{Key: pieceAt("a", 0), Val: "\x00"}).Text())
	for deep := range 11 {
		s.Put(node.Node{Keys: []string{"b", "c", "d", "e", "f"}, Kids: slices.Repeat([]int{deep}, 6)}.Text())
	}
	mustLoad(t, tree.Open(s, 0), "a", value.State{Kind: value.Queue, Rows: rows("")}, true)
	for root := 1; root <= 11; root++ {
		mustRefuse(t, "shared", tree.Open(s, root), "a", api.ErrBad)
	}
}
