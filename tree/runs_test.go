package tree

import (
	"fmt"
	"math/rand"
	"slices"
	"strings"
	"testing"

	"armoire/api"
	"armoire/device"
	"armoire/pages"
	"armoire/space"
)

// wordsOf: so many keys that are unlike, short and long, with bytes of all kinds.
func wordsOf(r *rand.Rand, many int) []string {
	words := []string{"", "\x00", "\xff", strings.Repeat("\xff", 24), strings.Repeat("\x00", 24)}
	for len(words) < many {
		b := make([]byte, 1+r.Intn(24))
		for k := range b {
			b[k] = []byte{0, 'a', 'b', 'c', 0xff, byte(r.Intn(256))}[r.Intn(6)]
		}
		words = append(words, string(b))
		slices.Sort(words)
		words = slices.Compact(words)
	}
	r.Shuffle(len(words), func(a, b int) { words[a], words[b] = words[b], words[a] })
	return words[:many]
}

// orders: all orders of so many things.
func orders(many int) [][]int {
	if many == 0 {
		return [][]int{{}}
	}
	var l [][]int
	for _, order := range orders(many - 1) {
		for at := range many {
			l = append(l, slices.Insert(slices.Clone(order), at, many-1))
		}
	}
	return l
}

// P9.1, P9.2: up to six keys put in every order, and deleted in every order.
func TestOrders(t *testing.T) {
	keys := []string{"a", "b", "c", "d", "e", "f"}
	for _, order := range orders(6) {
		_, s := formatted(t, 20)
		x, g := Open(s, -1), &garden{}
		for _, k := range order {
			g = mustPut(t, x, g, keys[k], fmt.Sprint(k))
		}
		for _, k := range order {
			g = mustDelete(t, x, g, keys[k])
		}
	}
	for _, order := range orders(5) {
		for _, back := range orders(5)[:40] {
			_, s := formatted(t, 20)
			x, g := Open(s, -1), &garden{}
			for _, k := range order {
				g = mustPut(t, x, g, keys[k], fmt.Sprint(k))
			}
			for _, k := range back {
				g = mustDelete(t, x, g, keys[k])
			}
			mustBe(t, "at last", x, &garden{})
		}
	}
}

// P9.1, P9.2: keys that rise, fall, and come from the middle, up to a full store, and away again from either end, and from the middle.
func TestRows(t *testing.T) {
	many := 150
	rising := make([]int, many)
	for k := range rising {
		rising[k] = k
	}
	falling := slices.Clone(rising)
	slices.Reverse(falling)
	inward, outward := []int{}, []int{}
	for k := range many / 2 {
		inward = append(inward, k, many-1-k)
		outward = append(outward, many/2+k, many/2-1-k)
	}
	rows := [][]int{rising, falling, inward, outward}
	deepest := 0
	for _, there := range rows {
		for _, back := range rows {
			_, s := formatted(t, 128)
			x, g := Open(s, -1), &garden{}
			for _, k := range there {
				g = mustPut(t, x, g, fmt.Sprintf("%03d", k), fmt.Sprint(k))
			}
			deepest = max(deepest, mustForm(t, x, x.Root(), true, "", ""))
			for _, k := range back {
				g = mustDelete(t, x, g, fmt.Sprintf("%03d", k))
			}
			mustBe(t, "at last", x, &garden{})
		}
	}
	if deepest < 4 {
		t.Errorf("the trees are only %d deep", deepest)
	}
}

// life is a tree, its store and device, what it should have, and what it should have behind a crash.
type life struct {
	d       *device.Device
	x       *Tree
	g, kept *garden
}

// reopen: the store is opened anew, from what lasts.
func (l *life) reopen(t *testing.T) {
	t.Helper()
	s, e := pages.Open(l.d, l.x.Store().Layout())
	if e != api.OK {
		t.Fatalf("Open: %d", e)
	}
	l.x, l.g = Open(s, s.Super().Root), l.kept.copy()
	mustBe(t, "opened anew", l.x, l.g)
}

// rest: something else than a Put or Delete: a checkpoint, an Undo, a crash.
func (l *life) rest(t *testing.T, r *rand.Rand) {
	t.Helper()
	s := l.x.Store()
	switch r.Intn(6) {
	case 0:
		s.Undo()
		l.x, l.g = Open(s, s.Super().Root), l.kept.copy()
	case 1:
		l.d.Crash(r.Intn(4), r.Intn(4))
		l.reopen(t)
	case 2:
		l.reopen(t)
	default:
		if e := s.Checkpoint(l.x.Root(), 1, 1); e != api.OK {
			t.Fatalf("Checkpoint: %d", e)
		}
		l.kept = l.g.copy()
	}
	mustBe(t, "rest", l.x, l.g)
}

// P9.1, P9.2, P9.3: long rows of any calls on stores of few pages and of many, with checkpoints, Undos and crashes between; the whole tree and all pages are looked at behind each.
func TestRuns(t *testing.T) {
	r := rand.New(rand.NewSource(1))
	for _, many := range []int{4, 5, 6, 7, 8, 9, 10, 12, 16, 24, 40, 64, 100, 127, 128} {
		words := wordsOf(r, 8+2*many)
		d, s := formatted(t, many)
		l := &life{d, Open(s, -1), &garden{}, &garden{}}
		full, deep := 0, 0
		for step := range 1200 {
			// It grows for a while, and shrinks for a while.
			key, grows := words[r.Intn(len(words))], step/200%2 == 0
			if has := l.g.root.all(); !grows && len(has) > 0 && r.Intn(3) > 0 {
				key = has[2*r.Intn(len(has)/2)]
			}
			was := l.x.Root()
			switch k := r.Intn(20); {
			case k == 0 && r.Intn(4) == 0 || k < 3 && l.x.Store().Count(space.Free) < 4:
				l.rest(t, r)
			case k < 5 && grows || k < 15 && !grows:
				l.g = mustDelete(t, l.x, l.g, key)
			case k < 19:
				l.g = mustPut(t, l.x, l.g, key, words[r.Intn(len(words))]+fmt.Sprint(step))
				if l.x.Root() == was {
					full++
				}
			default:
				mustGet(t, l.x, l.g, words)
			}
			if l.g.root != nil {
				deep = max(deep, mustForm(t, l.x, l.x.Root(), true, "", ""))
			}
		}
		mustGet(t, l.x, l.g, words)
		if many < 10 && full < 20 {
			t.Errorf("of %d pages only %d Puts are refused", many, full)
		}
		if many >= 100 && deep < 4 {
			t.Errorf("of %d pages a tree is only %d deep", many, deep)
		}
	}
}

// rarest: of all Deletes of keys that are there, and Puts of keys beside them, one that needs as many pages as the fewest so far; true: a Put; the garden behind it.
func rarest(g *garden, needs map[int]int) (string, bool, *garden) {
	var key string
	var isPut bool
	var best *garden
	has := g.root.all()
	for at := 0; at < len(has); at += 2 {
		put, cut := g.copy(), g.copy()
		put.Put(has[at]+"x", "v")
		cut.Delete(has[at])
		if best == nil || needs[put.made] < needs[best.made] {
			key, isPut, best = has[at]+"x", true, put
		}
		if needs[cut.made] < needs[best.made] {
			key, isPut, best = has[at], false, cut
		}
	}
	return key, isPut, best
}

// P9.3: one page too few for each number of pages that a Put or Delete needs, and just enough: a tree of any size in a store with just so many pages that are Free.
func TestFew(t *testing.T) {
	r := rand.New(rand.NewSource(2))
	needs := map[int]int{}
	for range 400 {
		_, s := formatted(t, 128)
		x, g := Open(s, -1), &garden{}
		for range []int{1, 8, 40, 200}[r.Intn(4)] + r.Intn(20) {
			key := fmt.Sprintf("%03d", r.Intn(300))
			if _, there := g.Get(key); there && r.Intn(2) == 0 {
				x.Delete(key)
				g.Delete(key)
			} else {
				x.Put(key, "v")
				g.Put(key, "v")
			}
		}
		mustBe(t, "a row", x, g)
		if g.root == nil {
			continue
		}
		key, isPut, after := rarest(g, needs)
		needs[after.made]++
		var others []int
		for s.Count(space.Free) >= max(after.made, 1) {
			id, _ := s.Put("something else's")
			others = append(others, id)
		}
		if after.made > 0 {
			if isPut {
				mustNotPut(t, "one too few", x, key, api.ErrFull)
			} else {
				mustNotDelete(t, "one too few", x, key, api.ErrFull)
			}
			// One of the others goes: now it is enough.
			s.Give(others[len(others)-1])
			others = others[:len(others)-1]
		}
		if isPut {
			if e := x.Put(key, "v"); e != api.OK {
				t.Fatalf("Put: %d", e)
			}
		} else if gone, e := x.Delete(key); !gone || e != api.OK {
			t.Fatalf("Delete: %v, %d", gone, e)
		}
		for _, id := range others {
			s.Give(id)
		}
		mustBe(t, "enough", x, after)
	}
	for need := range 8 {
		if needs[need] == 0 {
			t.Errorf("nothing needs %d pages: %v", need, needs)
		}
	}
}

// P9.1: the last entry of a full store goes all the same: that needs no page.
func TestLastOfFull(t *testing.T) {
	_, s := formatted(t, 5)
	x := Open(s, -1)
	g := mustPut(t, x, &garden{}, "a", "v")
	fill(t, s)
	mustNotPut(t, "full", x, "b", api.ErrFull)
	mustNotPut(t, "full", x, "a", api.ErrFull)
	if gone, e := x.Delete("a"); !gone || e != api.OK || x.Root() != -1 || s.Count(space.Free) != 1 {
		t.Errorf("Delete: %v, %d", gone, e)
	}
	g.Delete("a")
	if g.root != nil || g.made != 0 {
		t.Errorf("%+v", g)
	}
}

// P9.2, P7.2: a crash at each call of a checkpoint of a tree: behind it there is the tree as it was, or as it is, wholly.
func TestCrash(t *testing.T) {
	r := rand.New(rand.NewSource(3))
	for range 12 {
		d, s := formatted(t, 60)
		l := &life{d, Open(s, -1), &garden{}, &garden{}}
		row := func(many int) {
			for range many {
				key := fmt.Sprintf("%02d", r.Intn(40))
				if r.Intn(3) == 0 {
					l.g = mustDelete(t, l.x, l.g, key)
				} else {
					l.g = mustPut(t, l.x, l.g, key, fmt.Sprint(r.Intn(1000)))
				}
			}
		}
		row(40)
		s.Checkpoint(l.x.Root(), 1, 1)
		l.kept = l.g.copy()
		row(12)
		for calls := 0; ; calls++ {
			c := d.Clone()
			copied, e := pages.Open(c, s.Layout())
			if e != api.OK {
				t.Fatalf("Open: %d", e)
			}
			x, g := Open(copied, copied.Super().Root), l.kept.copy()
			// The same tree is made anew on the clone, and its power goes.
			has := g.root.all()
			for at := 0; at < len(has); at += 2 {
				if _, there := l.g.Get(has[at]); !there {
					g = mustDelete(t, x, g, has[at])
				}
			}
			has = l.g.root.all()
			for at := 0; at < len(has); at += 2 {
				g = mustPut(t, x, g, has[at], has[at+1])
			}
			c.Arm(calls)
			e = copied.Checkpoint(x.Root(), 2, 2)
			lasts := []int{}
			for at := range c.Loose() {
				if r.Intn(2) == 0 {
					lasts = append(lasts, at)
				}
			}
			c.Crash(lasts...)
			again, f := pages.Open(c, s.Layout())
			if f != api.OK {
				t.Fatalf("Open: %d", f)
			}
			y := Open(again, again.Super().Root)
			if again.Super().Log == 2 {
				mustBe(t, "the new one", y, g)
			} else {
				mustBe(t, "the old one", y, l.kept)
			}
			if e == api.OK {
				if again.Super().Log != 2 {
					t.Fatal("a checkpoint that was told is lost")
				}
				break
			}
		}
	}
}
