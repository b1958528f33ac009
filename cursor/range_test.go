package cursor

import (
	"fmt"
	"math"
	"math/rand"
	"slices"
	"strings"
	"testing"

	"armoire/api"
	"armoire/space"
	"armoire/tree"
)

// P10.1: ranges with any ends and any most, against a plain model.
func TestRange(t *testing.T) {
	r := rand.New(rand.NewSource(5))
	for _, many := range []int{0, 1, 4, 5, 9, 30, 77} {
		entries := entriesOf(wordsOf(r, many))
		x := planted(t, 128, entries, r.Perm(many))
		was := seen(x)
		keys := some(entries)
		for range 4000 {
			low, high := keys[r.Intn(len(keys))], keys[r.Intn(len(keys))]
			if r.Intn(8) == 0 {
				high = ""
			}
			most := []int{math.MinInt, -1, 0, 1, 2, r.Intn(many + 2), many, many + 1, math.MaxInt}[r.Intn(9)]
			var want []Entry
			for _, y := range from(entries, low) {
				if high == "" || y.Key < high {
					want = append(want, y)
				}
			}
			l, e := Range(x, low, high, most)
			if !slices.Equal(l, atMost(want, most)) || e != api.OK {
				t.Fatalf("Range(%q, %q, %d): %q, %d", low, high, most, l, e)
			}
		}
		if seen(x) != was {
			t.Fatalf("%d: something is changed", many)
		}
	}
}

// K3: what Range answers is the caller's.
func TestRangeApart(t *testing.T) {
	entries := entriesOf([]string{"a", "b", "c", "d", "e"})
	x := planted(t, 20, entries, []int{0, 1, 2, 3, 4})
	l, _ := Range(x, "", "", 9)
	m, _ := Under(x, "", 9)
	for k := range l {
		l[k] = Entry{}
	}
	if !slices.Equal(m, entries) {
		t.Errorf("%v", m)
	}
	mustHave(t, "apart", x, entries)
}

// texts: all of at most so many of these bytes.
func texts(letters string, most int) []string {
	all := []string{""}
	for from, size := 0, 1; size <= most; size++ {
		to := len(all)
		for _, s := range all[from:to] {
			for k := range len(letters) {
				all = append(all, s+letters[k:k+1])
			}
		}
		from = to
	}
	return all
}

// P10.1: Above, of texts with bytes ff at their end, and of others: it is above all that begin with the text, and of the others that are above it none is below.
func TestAbove(t *testing.T) {
	for prefix, want := range map[string]string{
		"":                          "",
		"\xff":                      "",
		"\xff\xff":                  "",
		strings.Repeat("\xff", 300): "",
		"\x00":                      "\x01",
		"\x7f":                      "\x80",
		"\xfe":                      "\xff",
		"a":                         "b",
		"a\xff":                     "b",
		"a\xff\xff\xff":             "b",
		"a\xfe\xff":                 "a\xff",
		"\xff\xfe\xff":              "\xff\xff",
		"\xffa\xff":                 "\xffb",
		"a\xffb":                    "a\xffc",
		"a\x00":                     "a\x01",
		"é":                         "\xc3\xaa",
	} {
		if s := Above(prefix); s != want {
			t.Errorf("Above(%q): %q, not %q", prefix, s, want)
		}
	}
	for b := range 255 {
		if s := Above("x" + string([]byte{byte(b)})); s != "x"+string([]byte{byte(b + 1)}) {
			t.Errorf("Above of %x: %q", b, s)
		}
	}
	all := texts("\x00\x01a\xfe\xff", 4)
	for _, prefix := range texts("\x00a\xfe\xff", 3) {
		above := Above(prefix)
		if (above == "") != (strings.ReplaceAll(prefix, "\xff", "") == "") {
			t.Fatalf("Above(%q): %q", prefix, above)
		}
		for _, s := range all {
			begins := strings.HasPrefix(s, prefix)
			isWithin := s >= prefix && (above == "" || s < above)
			if begins != isWithin {
				t.Fatalf("Above(%q): %q, but %q", prefix, above, s)
			}
		}
	}
}

// P10.1: Under, against a plain model.
func TestUnder(t *testing.T) {
	r := rand.New(rand.NewSource(6))
	for range 30 {
		many := r.Intn(130)
		entries := entriesOf(wordsOf(r, many))
		x := planted(t, 128, entries, r.Perm(many))
		was := seen(x)
		for _, prefix := range append(some(entries), texts("\x00a\xff", 3)...) {
			var want []Entry
			for _, y := range entries {
				if strings.HasPrefix(y.Key, prefix) {
					want = append(want, y)
				}
			}
			for _, most := range []int{math.MinInt, -1, 0, 1, len(want) - 1, len(want), len(want) + 1, math.MaxInt} {
				l, e := Under(x, prefix, most)
				if !slices.Equal(l, atMost(want, most)) || e != api.OK {
					t.Fatalf("Under(%q, %d): %q, %d, not %q", prefix, most, l, e, want)
				}
			}
		}
		if seen(x) != was {
			t.Fatal("something is changed")
		}
	}
}

// P10.1: Wipe, against a plain model: just what begins with the text goes.
func TestWipe(t *testing.T) {
	r := rand.New(rand.NewSource(7))
	for range 400 {
		many := r.Intn(60)
		entries := entriesOf(wordsOf(r, many))
		x := planted(t, 128, entries, r.Perm(many))
		keys := append(some(entries), texts("\x00a\xff", 2)...)
		prefix := keys[r.Intn(len(keys))]
		var left []Entry
		for _, y := range entries {
			if !strings.HasPrefix(y.Key, prefix) {
				left = append(left, y)
			}
		}
		n, e := Wipe(x, prefix)
		if n != len(entries)-len(left) || e != api.OK {
			t.Fatalf("Wipe(%q): %d, %d", prefix, n, e)
		}
		mustHave(t, fmt.Sprintf("Wipe(%q)", prefix), x, left)
		if len(left) == 0 && x.Root() != -1 {
			t.Fatalf("Wipe(%q): root %d", prefix, x.Root())
		}
		was := seen(x)
		if n, e := Wipe(x, prefix); n != 0 || e != api.OK || seen(x) != was {
			t.Fatalf("Wipe(%q) again: %d, %d", prefix, n, e)
		}
	}
}

// leave: of a store's pages just so many are Free: the others are put, and said to be something else's.
func leave(t *testing.T, x *tree.Tree, many int) {
	t.Helper()
	for x.Store().Count(space.Free) > many {
		if _, e := x.Store().Put("x"); e != api.OK {
			t.Fatalf("Put: %d", e)
		}
	}
}

// P10.1: Wipes with too few pages: it is as if Deletes were called, one behind the other, up to the first error.
func TestWipeFew(t *testing.T) {
	r := rand.New(rand.NewSource(8))
	cut, whole, first := 0, 0, 0
	for range 600 {
		many := 1 + r.Intn(40)
		entries := entriesOf(wordsOf(r, many))
		order := r.Perm(many)
		x, y := planted(t, 80, entries, order), planted(t, 80, entries, order)
		free := r.Intn(12)
		for _, z := range []*tree.Tree{x, y} {
			// What is in use at a checkpoint isn't free behind a Delete.
			z.Store().Checkpoint(z.Root(), 1, 1)
			leave(t, z, free)
		}
		prefix := []string{"", "", "a", "\xff"}[r.Intn(4)]
		want, f := 0, api.OK
		left := slices.Clone(entries)
		for _, w := range entries {
			if !strings.HasPrefix(w.Key, prefix) {
				continue
			}
			if _, f = y.Delete(w.Key); f != api.OK {
				break
			}
			want++
			left = slices.DeleteFunc(left, func(l Entry) bool { return l == w })
		}
		n, e := Wipe(x, prefix)
		if n != want || e != f || seen(x) != seen(y) {
			t.Fatalf("Wipe(%q): %d, %d, not %d, %d", prefix, n, e, want, f)
		}
		mustHave(t, "few", x, left)
		switch {
		case e == api.OK:
			whole++
		case e != api.ErrFull:
			t.Fatalf("Wipe(%q): %d", prefix, e)
		case n == 0:
			first++
		default:
			cut++
		}
	}
	if cut < 100 || whole < 50 || first < 50 {
		t.Errorf("%d, %d, %d", cut, whole, first)
	}
}
