package names

import (
	"fmt"
	"math/rand"
	"slices"
	"strings"
	"testing"

	"armoire/api"
	"armoire/cursor"
	"armoire/pages"
	"armoire/tree"
	"armoire/value"
)

// mustStay: what is stored again changes no page, though there is none left.
func mustStay(t *testing.T, x *tree.Tree, name string, s value.State) {
	t.Helper()
	was := seen(x)
	mustStore(t, x, name, s)
	if seen(x) != was {
		t.Fatalf("Store(%q, %+v) again: something is changed", name, s)
	}
}

// P19.2, P19.3: any states of each type over any others, with more pieces and with fewer: they are loaded, other objects and keys stay, and what is stored again changes no page.
func TestStoreOver(t *testing.T) {
	r := rand.New(rand.NewSource(1))
	counts := map[string]int{}
	for range 600 {
		x, p := anyObjects(t, r)
		p.match(t, x, few)
		for range 6 {
			name := few[r.Intn(len(few))]
			old, there := p.objects[name]
			kind := 1 + r.Intn(7)
			if there && r.Intn(2) == 0 {
				kind = old.Kind
			}
			s := anyState(r, kind)
			mustStore(t, x, name, s)
			p.objects[name] = s
			p.match(t, x, few)
			mustStay(t, x, name, s)
			if r.Intn(3) == 0 {
				x.Store().Checkpoint(x.Root(), 1, 1)
			}
			mustStay(t, x, name, s)
			counts[fmt.Sprint(there, min(max(len(plainPieces(s))-len(plainPieces(old)), -1), 1))]++
		}
	}
	for _, what := range []string{"true -1", "true 0", "true 1", "false 0", "false 1"} {
		if counts[what] < 200 {
			t.Errorf("%s: %v", what, counts)
		}
	}
}

// P19.2: all pairs of some states, one over the other, behind which it is as if the first hadn't been.
func TestStorePairs(t *testing.T) {
	r := rand.New(rand.NewSource(2))
	var l []value.State
	for kind := 1; kind <= 7; kind++ {
		l = append(l, value.New(kind))
		for range 6 {
			l = append(l, anyState(r, kind))
		}
	}
	full := value.State{Kind: value.Directory}
	for k := range 8 {
		full.Rows = append(full.Rows, value.Row{Key: strings.Repeat(string([]byte{byte('a' + k)}), 24), Val: strings.Repeat("\xff", 24)})
	}
	l = append(l, full)
	for at, s := range l {
		for k, next := range l {
			name := few[(at+k)%len(few)]
			x := planted(t, 60)
			mustStore(t, x, name, s)
			mustStore(t, x, name, next)
			plain{objects: map[string]value.State{name: next}}.match(t, x, few)
			mustStay(t, x, name, next)
		}
	}
}

// P19.2: what is stored is loaded, whatever was there before: also heads and pieces that say nothing, and keys with anything behind the r.
func TestStoreOverAny(t *testing.T) {
	r := rand.New(rand.NewSource(3))
	for range 1500 {
		x, p := anyObjects(t, r)
		name := few[r.Intn(len(few))]
		for range r.Intn(30) {
			key := name + "\x00\x01r"
			for range r.Intn(3) {
				key += string([]byte{byte(r.Intn(4) * 6)})
			}
			if r.Intn(8) == 0 {
				key = headAt(name)
			}
			if e := x.Put(key[:min(len(key), Most)], anyText(r)); e != api.OK {
				t.Fatalf("Put: %d", e)
			}
		}
		s := anyState(r, 1+r.Intn(7))
		mustStore(t, x, name, s)
		p.objects[name] = s
		p.match(t, x, few)
		mustStay(t, x, name, s)
	}
}

// act: one call on a tree that changes it.
type act struct {
	key, val string
	goes     bool
}

// acts: the calls that the chapter asks for of a Store, by what the tree has.
func acts(t *testing.T, x *tree.Tree, name string, s value.State) []act {
	t.Helper()
	has := map[string]string{}
	var gone []act
	pieces := plainPieces(s)
	for _, entry := range all(t, x) {
		has[entry.Key] = entry.Val
		if n, is := strings.CutPrefix(entry.Key, name+"\x00\x01r"); is && int(n[0]) >= len(pieces) {
			gone = append(gone, act{key: entry.Key, goes: true})
		}
	}
	var l []act
	put := func(key, val string) {
		if old, there := has[key]; !there || old != val {
			l = append(l, act{key: key, val: val})
		}
	}
	for n, piece := range pieces {
		put(pieceAt(name, n), piece)
	}
	l = append(l, gone...)
	put(headAt(name), plainHead(s.Kind, s.N, len(s.Rows)))
	return l
}

// carryOut: up to the first error, which is answered: how many were OK.
func carryOut(x *tree.Tree, l []act) (int, api.Errno) {
	for at, a := range l {
		var e api.Errno
		if a.goes {
			_, e = x.Delete(a.key)
		} else {
			e = x.Put(a.key, a.val)
		}
		if e != api.OK {
			return at, e
		}
	}
	return len(l), api.OK
}

// P19.1: Stores with pages enough and with too few: it is as if the pieces that aren't so were Put, those that are too many Deleted, and the head Put, one behind the other, up to the first error.
func TestStoreFew(t *testing.T) {
	counts := map[string]int{}
	for seed := range 4000 {
		// Two trees of one seed are the same.
		r, q := rand.New(rand.NewSource(int64(seed))), rand.New(rand.NewSource(int64(seed)))
		x, p := anyObjects(t, r)
		y, _ := anyObjects(t, q)
		free := r.Intn(20)
		for _, z := range []*tree.Tree{x, y} {
			// What is in use at a checkpoint isn't free behind a change.
			z.Store().Checkpoint(z.Root(), 1, 1)
			leave(z, free)
		}
		name := few[r.Intn(len(few))]
		s := anyState(r, 1+r.Intn(7))
		old := p.objects[name]
		if r.Intn(2) == 0 && len(old.Rows) > 0 {
			s = old.Clone()
			s.Rows = s.Rows[:r.Intn(len(s.Rows))]
		}
		todo := acts(t, y, name, s)
		n, want := carryOut(y, todo)
		if e := Store(x, name, s); e != want || seen(x) != seen(y) {
			t.Fatalf("%d: Store(%q, %+v): %d, not %d", seed, name, s, e, want)
		}
		counts[fmt.Sprint(want)]++
		if want != api.OK {
			counts[fmt.Sprint("goes ", todo[n].goes)]++
			counts[fmt.Sprint("first ", n == 0)]++
			counts[fmt.Sprint("head ", todo[n].key == headAt(name))]++
		}
		// The other objects are as they were, whatever went amiss.
		for other, was := range p.objects {
			if other != name {
				mustLoad(t, x, other, was, true)
			}
		}
	}
	for _, what := range []string{"0", "7", "goes true", "goes false", "first true", "first false", "head true", "head false"} {
		if counts[what] < 40 {
			t.Errorf("%s: %v", what, counts)
		}
	}
	if counts["0"]+counts["7"] != 4000 {
		t.Errorf("%v", counts)
	}
}

// P19.3: what is stored again needs no page, and writes nothing, though none is free; one piece more is ErrFull.
func TestStoreFull(t *testing.T) {
	x := planted(t, 20)
	s := value.State{Kind: value.Set, Rows: rows("a", "b", "c", "d")}
	mustStore(t, x, "s", s)
	mustStore(t, x, "c", value.State{Kind: value.Counter, N: 9})
	x.Store().Checkpoint(x.Root(), 1, 1)
	leave(x, 0)
	mustStay(t, x, "s", s)
	mustStay(t, x, "c", value.State{Kind: value.Counter, N: 9})
	was := seen(x)
	for _, next := range []value.State{s.With(value.Row{Key: "e"}), s.Without(0), s.Without(3), value.New(value.Set), {Kind: value.Queue, Rows: s.Rows}} {
		if e := Store(x, "s", next); e != api.ErrFull || seen(x) != was {
			t.Errorf("Store(%+v): %d", next, e)
		}
	}
	if e := Store(x, "new", value.New(value.Set)); e != api.ErrFull || seen(x) != was {
		t.Errorf("Store: %d", e)
	}
	mustLoad(t, x, "s", s, true)
}

// P19.2: what was stored is loaded behind a checkpoint, and a crash.
func TestStoreLasts(t *testing.T) {
	r := rand.New(rand.NewSource(4))
	for range 60 {
		x, p := anyObjects(t, r)
		s := x.Store()
		if e := s.Checkpoint(x.Root(), 1, 1); e != api.OK {
			t.Fatalf("Checkpoint: %d", e)
		}
		mustStore(t, x, few[r.Intn(len(few))], anyState(r, 1+r.Intn(7)))
		s.Device().Crash()
		again, e := pages.Open(s.Device(), s.Layout())
		if e != api.OK {
			t.Fatalf("Open: %d", e)
		}
		p.match(t, tree.Open(again, again.Super().Root), few)
	}
}

// P19.2: two names' objects go their own ways, of all pairs of names and in either order.
func TestNamesApart(t *testing.T) {
	dir := value.State{Kind: value.Directory, Rows: []value.Row{{Key: "h", Val: "r"}, {Key: "r", Val: "\x00\x01"}}}
	queue := value.State{Kind: value.Queue, Rows: rows("h", "r", "\x00\x01")}
	for at, a := range few {
		for _, b := range slices.Concat(few[:at], few[at+1:]) {
			x := planted(t, 60)
			mustStore(t, x, a, dir)
			mustStore(t, x, b, queue)
			mustStore(t, x, a, value.New(value.Semi))
			plain{objects: map[string]value.State{a: value.New(value.Semi), b: queue}}.match(t, x, few)
			mustStore(t, x, b, value.New(value.Register))
			mustStore(t, x, a, dir)
			plain{objects: map[string]value.State{a: dir, b: value.New(value.Register)}}.match(t, x, few)
		}
	}
}

// spoil: an object's entries, of which one is gone, or another one, or one more.
func spoil(r *rand.Rand, l []cursor.Entry) []cursor.Entry {
	if len(l) == 0 {
		return nil
	}
	at := r.Intn(len(l))
	switch r.Intn(5) {
	case 0:
		return slices.Delete(l, at, at+1)
	case 1:
		l[at].Val = plainText(anyText(r))
	case 2:
		b := []byte(l[at].Val)
		b[r.Intn(len(b))] = byte(r.Intn(9))
		l[at].Val = string(b)
	case 3:
		l = append(l, cursor.Entry{Key: pieceAt("a", r.Intn(256)), Val: plainText(anyText(r))})
	case 4:
		l[at].Val = plainHead(r.Intn(9), anyNumber(r)%2, r.Intn(10))
	}
	return l
}

// P19.1: Load of any entries that were written by hand, against another reader.
func TestLoadAny(t *testing.T) {
	r := rand.New(rand.NewSource(5))
	counts := map[string]int{}
	for range 12000 {
		s := anyState(r, 1+r.Intn(7))
		l := entriesOf("a", s)
		for range r.Intn(3) {
			l = spoil(r, l)
		}
		x := planted(t, 60, l...)
		var want value.State
		isThere, f := false, api.OK
		has := all(t, x)
		if len(has) > 0 && has[0].Key == headAt("a") {
			want, isThere, f = plainLoad(has[0].Val, has[1:])
		}
		got, there, e := Load(x, "a")
		if !got.Same(want) || there != isThere || e != f {
			t.Fatalf("%q: %+v, %v, %d, not %+v, %v, %d", l, got, there, e, want, isThere, f)
		}
		counts[fmt.Sprint(there, e, got.Same(s))]++
	}
	for _, what := range []string{"false 0 false", "false 17 false", "true 0 false", "true 0 true"} {
		if counts[what] < 300 {
			t.Errorf("%s: %v", what, counts)
		}
	}
}

// plainLoad: the object with that head, and these pieces, told by all states' bytes as layer 11 has them.
func plainLoad(head string, pieces []cursor.Entry) (value.State, bool, api.Errno) {
	// A state's bytes are its head's, and those of its rows' texts, of others than directories with "" as each Val.
	text, many := head, len(pieces)
	isDirectory := strings.HasPrefix(head, "\x01\x05")
	for _, piece := range pieces {
		text += piece.Val
		if !isDirectory {
			text += "\x00"
		}
		if !isPlainText(piece.Val) {
			many = 1 << 20
		}
	}
	if isDirectory {
		many /= 2
	}
	s, e := value.Parse(text)
	if e != api.OK || many != len(s.Rows) {
		return value.State{}, false, api.ErrBad
	}
	return s, true, api.OK
}

// isPlainText: is it a text of up to 24 bytes?
func isPlainText(s string) bool {
	return s == "\x00" || len(s) > 2 && len(s) <= 26 && s == plainText(s[2:])
}
