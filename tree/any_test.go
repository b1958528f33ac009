package tree

import (
	"fmt"
	"math/rand"
	"slices"
	"testing"

	"armoire/api"
	"armoire/node"
	"armoire/pages"
)

// anyNode: a node that may stand on a page, of one-letter keys, whose kids are any of so many pages and some beyond.
func anyNode(r *rand.Rand, many int) node.Node {
	var keys []string
	for range r.Intn(5) {
		keys = append(keys, string(rune('a'+r.Intn(12))))
	}
	slices.Sort(keys)
	keys = slices.Compact(keys)
	if r.Intn(2) == 0 || len(keys) == 0 {
		return leafOf(keys...)
	}
	var kids []int
	for range len(keys) + 1 {
		kids = append(kids, r.Intn(many+1))
	}
	return innerOf(kids, keys...)
}

// anyStore: a store whose pages are nodes, and some others, at chance.
func anyStore(t *testing.T, r *rand.Rand) *pages.Store {
	t.Helper()
	many := 4 + r.Intn(20)
	_, s := formatted(t, many)
	for k := range r.Intn(many + 1) {
		text := anyNode(r, many).Text()
		if r.Intn(12) == 0 {
			text = text[:r.Intn(len(text))]
		}
		s.Put(text)
		if r.Intn(8) == 0 {
			s.Checkpoint(-1, 1, 1)
		}
		if r.Intn(8) == 0 {
			s.Give(r.Intn(k + 1))
		}
	}
	return s
}

// follow: Get's answer, told by the pages' texts.
func follow(x *Tree, key string) (string, bool, api.Errno) {
	id := x.Root()
	for deep := 1; id != -1; deep++ {
		text, e := x.Store().Read(id)
		if e != api.OK {
			return "", false, e
		}
		n, e := node.Parse(text)
		if e != api.OK || deep > 12 {
			return "", false, api.ErrBad
		}
		if n.Leaf {
			if at := slices.Index(n.Keys, key); at >= 0 {
				return n.Vals[at], true, api.OK
			}
			break
		}
		at := 0
		for at < len(n.Keys) && n.Keys[at] <= key {
			at++
		}
		id = n.Kids[at]
	}
	return "", false, api.OK
}

// P9.1, P9.3, P1: any page as root, of a store with any pages: every call ends; with an error nothing is changed; a Put that is OK is found, and what was Deleted isn't.
func TestAnyRoot(t *testing.T) {
	r := rand.New(rand.NewSource(4))
	counts := map[string]int{}
	for range 9000 {
		s := anyStore(t, r)
		x := Open(s, r.Intn(s.Len()+2)-1)
		for range 4 {
			key := string(rune('a' + r.Intn(13)))
			v, ok, e := x.Get(key)
			if want, there, f := follow(x, key); v != want || ok != there || e != f {
				t.Fatalf("Get(%q): %q, %v, %d, not %q, %v, %d", key, v, ok, e, want, there, f)
			}
			was := seen(x)
			if r.Intn(2) == 0 {
				f := x.Put(key, "new")
				counts[fmt.Sprintf("Put %d", f)]++
				if e != api.OK && f != e || f != api.OK && seen(x) != was {
					t.Fatalf("Put(%q): %d, Get %d", key, f, e)
				}
				if v, ok, e := x.Get(key); f == api.OK && (v != "new" || !ok || e != api.OK) {
					t.Fatalf("Put(%q), then Get: %q, %v, %d", key, v, ok, e)
				}
				continue
			}
			gone, f := x.Delete(key)
			counts[fmt.Sprintf("Delete %v %d", gone, f)]++
			if e != api.OK && f != e || !gone && seen(x) != was || f != api.OK && gone || f == api.OK && gone != ok {
				t.Fatalf("Delete(%q): %v, %d, Get %v, %d", key, gone, f, ok, e)
			}
			if v, ok, e := x.Get(key); f == api.OK && (v != "" || ok || e != api.OK) {
				t.Fatalf("Delete(%q), then Get: %q, %v, %d", key, v, ok, e)
			}
		}
	}
	for _, e := range []api.Errno{api.ErrNone, api.ErrBad, api.ErrFull} {
		if counts[fmt.Sprintf("Put %d", e)] < 50 || counts[fmt.Sprintf("Delete %v %d", false, e)] < 50 {
			t.Errorf("%v", counts)
		}
	}
	if counts["Put 0"] < 3000 || counts["Delete true 0"] < 500 {
		t.Errorf("%v", counts)
	}
}
