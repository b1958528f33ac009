package names

import (
	"fmt"
	"maps"
	"math"
	"math/rand"
	"slices"
	"strings"
	"testing"

	"armoire/api"
	"armoire/cursor"
	"armoire/device"
	"armoire/pages"
	"armoire/space"
	"armoire/tree"
	"armoire/value"
)

// formatted: a new store of so many pages.
func formatted(t *testing.T, many int) *pages.Store {
	t.Helper()
	l := pages.Layout{Pages: many, Log: 4}
	d, e := device.New(l.Total())
	if e != api.OK {
		t.Fatalf("New: %d", e)
	}
	s, e := pages.Format(d, l)
	if e != api.OK {
		t.Fatalf("Format: %d", e)
	}
	return s
}

// planted: a tree of a new store of so many pages, in which these were Put.
func planted(t *testing.T, many int, entries ...cursor.Entry) *tree.Tree {
	t.Helper()
	x := tree.Open(formatted(t, many), -1)
	for _, entry := range entries {
		if e := x.Put(entry.Key, entry.Val); e != api.OK {
			t.Fatalf("Put(%q): %d", entry.Key, e)
		}
	}
	return x
}

// seen: a tree's root, and what there is of its pages, and of the device.
func seen(x *tree.Tree) string {
	s := x.Store()
	l := []any{x.Root(), s.Super(), s.Dirty(), s.Device().Loose(), s.Device().Calls()}
	for id := range s.Len() {
		text, e := s.Read(id)
		l = append(l, s.State(id), text, e)
	}
	return fmt.Sprint(l...) + strings.Join(s.Device().Image(), "")
}

// all: what a tree has.
func all(t *testing.T, x *tree.Tree) []cursor.Entry {
	t.Helper()
	l, e := cursor.Range(x, "", "", math.MaxInt)
	if e != api.OK {
		t.Fatalf("Range: %d", e)
	}
	return l
}

// leave: of a store's pages just so many are Free: the others are put, and are no tree's.
func leave(x *tree.Tree, many int) {
	for x.Store().Count(space.Free) > many {
		x.Store().Put("x")
	}
}

// plainText is a text as the document has it, of less than 256 bytes.
func plainText(s string) string {
	if s == "" {
		return "\x00"
	}
	return "\x01" + string([]byte{byte(len(s))}) + s
}

// plainNumber is a number so.
func plainNumber(n uint64) string {
	var digits []byte
	for ; n > 0; n /= 256 {
		digits = append([]byte{byte(n % 256)}, digits...)
	}
	return string([]byte{byte(len(digits))}) + string(digits)
}

// plainHead is what an object's head should say.
func plainHead(kind int, n int64, rows int) string {
	whole := 2 * uint64(n)
	if n < 0 {
		whole = 2*uint64(-(n+1)) + 1
	}
	return plainNumber(uint64(kind)) + plainNumber(whole) + plainNumber(uint64(rows))
}

// plainPieces is what an object's pieces should say.
func plainPieces(s value.State) []string {
	var l []string
	for _, r := range s.Rows {
		l = append(l, plainText(r.Key))
		if s.Kind == 5 {
			l = append(l, plainText(r.Val))
		}
	}
	return l
}

// headAt, pieceAt: where they should stand, of a name that may be, or the catalog's.
func headAt(name string) string         { return name + "\x00\x01h" }
func pieceAt(name string, n int) string { return name + "\x00\x01r" + string([]byte{byte(n)}) }

// entriesOf: those of an object.
func entriesOf(name string, s value.State) []cursor.Entry {
	l := []cursor.Entry{{Key: headAt(name), Val: plainHead(s.Kind, s.N, len(s.Rows))}}
	for n, piece := range plainPieces(s) {
		l = append(l, cursor.Entry{Key: pieceAt(name, n), Val: piece})
	}
	return l
}

// plain is objects by names, and other keys with values.
type plain struct {
	objects map[string]value.State
	others  []cursor.Entry
}

// entries: what a tree should have, rising.
func (p plain) entries() []cursor.Entry {
	l := slices.Clone(p.others)
	for name, s := range p.objects {
		l = append(l, entriesOf(name, s)...)
	}
	slices.SortFunc(l, func(a, b cursor.Entry) int { return strings.Compare(a.Key, b.Key) })
	return l
}

// match: a tree has just that, and it is loaded, also what isn't there.
func (p plain) match(t *testing.T, x *tree.Tree, names []string) {
	t.Helper()
	if l := all(t, x); !slices.Equal(l, p.entries()) {
		t.Fatalf("%q, not %q", l, p.entries())
	}
	for _, name := range names {
		mustLoad(t, x, name, p.objects[name], slices.Contains(slices.Collect(maps.Keys(p.objects)), name))
	}
}

// mustLoad: that is loaded, and it is the caller's.
func mustLoad(t *testing.T, x *tree.Tree, name string, want value.State, is bool) {
	t.Helper()
	for range 2 {
		s, there, e := Load(x, name)
		if !s.Same(want) || there != is || e != api.OK {
			t.Fatalf("Load(%q): %+v, %v, %d, not %+v, %v", name, s, there, e, want, is)
		}
		clear(s.Rows)
	}
}

// mustRefuse: Load, and All of the catalog, answer that error, and nothing else, and change nothing.
func mustRefuse(t *testing.T, what string, x *tree.Tree, name string, want api.Errno) {
	t.Helper()
	was := seen(x)
	if s, there, e := Load(x, name); !s.Same(value.State{}) || there || e != want {
		t.Errorf("%s: Load(%q): %+v, %v, %d, not %d", what, name, s, there, e, want)
	}
	if name != Catalog {
		return
	}
	if s, e := All(x); !s.Same(value.State{}) || e != want {
		t.Errorf("%s: All: %+v, %d, not %d", what, s, e, want)
	}
	if seen(x) != was {
		t.Errorf("%s: something is changed", what)
	}
}

// mustStore: it is stored, and as it was, with room behind its rows that nobody touches.
func mustStore(t *testing.T, x *tree.Tree, name string, s value.State) {
	t.Helper()
	rows := append(slices.Clone(s.Rows), make([]value.Row, 20)...)
	room := slices.Clone(rows)
	s.Rows = rows[:len(s.Rows)]
	if e := Store(x, name, s); e != api.OK {
		t.Fatalf("Store(%q, %+v): %d", name, s, e)
	}
	if !slices.Equal(rows, room) {
		t.Fatalf("Store(%q): %q is %q now", name, room, rows)
	}
}

// anyText: of up to 24 bytes, mostly of few letters.
func anyText(r *rand.Rand) string {
	letters := "\x00\x01abhr\xff"
	size := r.Intn(4)
	if r.Intn(4) == 0 {
		size = 20 + r.Intn(5)
	}
	var b []byte
	for range size {
		b = append(b, letters[r.Intn(len(letters))])
	}
	return string(b)
}

// anyNumber: a small one, one at the ends, or any.
func anyNumber(r *rand.Rand) int64 {
	switch r.Intn(3) {
	case 0:
		return int64(r.Intn(5)) - 2
	case 1:
		return []int64{math.MinInt64, math.MinInt64 + 1, math.MaxInt64, math.MaxInt64 - 1}[r.Intn(4)]
	default:
		return int64(r.Uint64()) >> r.Intn(64)
	}
}

// anyState: one that may be, of a type.
func anyState(r *rand.Rand, kind int) value.State {
	s := value.State{Kind: kind}
	var texts []string
	for range r.Intn(9) {
		texts = append(texts, anyText(r))
	}
	switch kind {
	case value.Counter:
		return value.State{Kind: kind, N: anyNumber(r)}
	case value.Account:
		return value.State{Kind: kind, N: anyNumber(r) & math.MaxInt64}
	case value.Register:
		texts = slices.DeleteFunc(texts, func(text string) bool { return text == "" })
		texts = texts[:min(len(texts), 1)]
	case value.Set, value.Directory:
		slices.Sort(texts)
		texts = slices.Compact(texts)
	case value.Semi:
		slices.Sort(texts)
	}
	for _, text := range texts {
		row := value.Row{Key: text}
		if kind == value.Directory {
			row.Val = anyText(r)
		}
		s.Rows = append(s.Rows, row)
	}
	return s
}

// few: names that begin alike, the catalog's, and the longest.
var few = []string{"", "a", "aa", "a0", "b", "h", "r", "zzzzzzzzzzzzzzzz", "zzzzzzzzzzzzzzz"}

// anyObjects: a tree with objects of some of these names, and some other keys about theirs.
func anyObjects(t *testing.T, r *rand.Rand) (*tree.Tree, plain) {
	t.Helper()
	p := plain{objects: map[string]value.State{}}
	for _, key := range []string{"", "a", "a\x00", "a\x00\x01", "a\x00\x01g", "a\x00\x01ha", "a\x00\x01q\xff", "a\x00\x01s", "a\x00\x02", "\x00\x01s", "c\x00\x01r", "\xff"} {
		if r.Intn(3) == 0 {
			p.others = append(p.others, cursor.Entry{Key: key, Val: anyText(r)})
		}
	}
	x := planted(t, 128, p.others...)
	for range r.Intn(5) {
		name := few[r.Intn(len(few))]
		p.objects[name] = anyState(r, 1+r.Intn(7))
		mustStore(t, x, name, p.objects[name])
	}
	return x, p
}
