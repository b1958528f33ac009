package names

import (
	"slices"
	"strings"
	"testing"

	"armoire/api"
	"armoire/codec"
	"armoire/cursor"
	"armoire/value"
)

// rows: with these Keys.
func rows(keys ...string) []value.Row {
	var l []value.Row
	for _, key := range keys {
		l = append(l, value.Row{Key: key})
	}
	return l
}

// P19.1: the constants.
func TestConstants(t *testing.T) {
	if most := Most; Catalog != "" || most != 24 {
		t.Errorf("%q, %d", Catalog, Most)
	}
}

// P19.1: Good of no letter, of 16 and 17, and of names made with each byte.
func TestGood(t *testing.T) {
	const letters = "abcdefghijklmnopqrstuvwxyz0123456789"
	for n := range 40 {
		for _, name := range []string{strings.Repeat("a", n), strings.Repeat("9", n), (letters + letters)[:n]} {
			if is := Good(name); is != (n >= 1 && n <= 16) {
				t.Errorf("Good(%q): %v", name, is)
			}
		}
	}
	for b := range 256 {
		sign := string([]byte{byte(b)})
		want := strings.Contains(letters, sign)
		for _, name := range []string{sign, sign + "a", "a" + sign, "a" + sign + "0", sign + strings.Repeat("z", 15), strings.Repeat("0", 15) + sign} {
			if is := Good(name); is != want {
				t.Errorf("Good(%q): %v", name, is)
			}
		}
	}
	for _, name := range []string{"é", "aé", "ａ", "٣", "a b", "a\n", "a-b", strings.Repeat("é", 8), strings.Repeat("a", 1<<20)} {
		if Good(name) {
			t.Errorf("Good(%q)", name[:min(len(name), 20)])
		}
	}
}

// P19.1: Key of any names that may be, and numbers of a byte; they are apart from one another, short enough, and rise.
func TestKey(t *testing.T) {
	for at, name := range []string{"", "a", "aa", "b", "zzzzzzzzzzzzzzzz"} {
		last := ""
		for n := range 256 {
			key := Key(name, n)
			if key != pieceAt(name, n) || key != codec.Key(name)+"r"+string([]byte{byte(n)}) || len(key) > Most || key <= last {
				t.Errorf("%d: Key(%q, %d): %q", at, name, n, key)
			}
			last = key
		}
	}
	for _, n := range []int{-1, 256, 1 << 40, -1 << 62} {
		Key("a", n)
	}
}

// P19.1: the chapter's example, and each type's bytes.
func TestBytes(t *testing.T) {
	long := strings.Repeat("x", 24)
	for _, c := range []struct {
		name string
		s    value.State
		want []cursor.Entry
	}{
		{"q", value.State{Kind: value.Queue, Rows: rows("b")}, []cursor.Entry{{Key: "\x71\x00\x01\x68", Val: "\x01\x06\x00\x01\x01"}, {Key: "\x71\x00\x01\x72\x00", Val: "\x01\x01b"}}},
		{"a", value.New(value.Register), []cursor.Entry{{Key: "a\x00\x01h", Val: "\x01\x01\x00\x00"}}},
		{"a", value.State{Kind: value.Register, Rows: rows(long)}, []cursor.Entry{{Key: "a\x00\x01h", Val: "\x01\x01\x00\x01\x01"}, {Key: "a\x00\x01r\x00", Val: "\x01\x18" + long}}},
		{"a1", value.State{Kind: value.Counter, N: -7}, []cursor.Entry{{Key: "a1\x00\x01h", Val: "\x01\x02\x01\x0d\x00"}}},
		{"a1", value.State{Kind: value.Counter, N: -1 << 63}, []cursor.Entry{{Key: "a1\x00\x01h", Val: "\x01\x02\x08\xff\xff\xff\xff\xff\xff\xff\xff\x00"}}},
		{"b", value.State{Kind: value.Account, N: 150}, []cursor.Entry{{Key: "b\x00\x01h", Val: "\x01\x03\x02\x01\x2c\x00"}}},
		{"c", value.State{Kind: value.Set, Rows: rows("", "a")}, []cursor.Entry{{Key: "c\x00\x01h", Val: "\x01\x04\x00\x01\x02"}, {Key: "c\x00\x01r\x00", Val: "\x00"}, {Key: "c\x00\x01r\x01", Val: "\x01\x01a"}}},
		{"", value.State{Kind: value.Directory, Rows: []value.Row{{Key: "j"}, {Key: "k", Val: "v"}}}, []cursor.Entry{{Key: "\x00\x01h", Val: "\x01\x05\x00\x01\x02"}, {Key: "\x00\x01r\x00", Val: "\x01\x01j"}, {Key: "\x00\x01r\x01", Val: "\x00"}, {Key: "\x00\x01r\x02", Val: "\x01\x01k"}, {Key: "\x00\x01r\x03", Val: "\x01\x01v"}}},
		{"zzzzzzzzzzzzzzzz", value.State{Kind: value.Semi, Rows: rows("b", "b")}, []cursor.Entry{{Key: "zzzzzzzzzzzzzzzz\x00\x01h", Val: "\x01\x07\x00\x01\x02"}, {Key: "zzzzzzzzzzzzzzzz\x00\x01r\x00", Val: "\x01\x01b"}, {Key: "zzzzzzzzzzzzzzzz\x00\x01r\x01", Val: "\x01\x01b"}}},
	} {
		x := planted(t, 30)
		mustStore(t, x, c.name, c.s)
		if l := all(t, x); !slices.Equal(l, c.want) {
			t.Errorf("%q: %q, not %q", c.name, l, c.want)
		}
		// And back, of entries that were written by hand.
		x = planted(t, 30, c.want...)
		mustLoad(t, x, c.name, c.s, true)
	}
}

// P19.1: of an empty tree, and of one without the head, nothing is loaded, and the catalog is an empty directory.
func TestNoHead(t *testing.T) {
	x := planted(t, 30)
	for _, name := range few {
		mustLoad(t, x, name, value.State{}, false)
	}
	x = planted(t, 30, cursor.Entry{Key: Key("", 0), Val: "\x00"}, cursor.Entry{Key: "\x00\x01h\x00", Val: "\x01\x05\x00\x00"}, cursor.Entry{Key: "a\x00\x01r", Val: "?"}, cursor.Entry{Key: "aa\x00\x01h", Val: "\x01\x05\x00\x00"})
	for _, name := range []string{"", "a", "b"} {
		mustLoad(t, x, name, value.State{}, false)
	}
	was := seen(x)
	if s, e := All(x); !s.Same(value.New(value.Directory)) || e != api.OK || seen(x) != was {
		t.Errorf("All: %+v, %d", s, e)
	}
}

// P19.1: All is the catalog that was stored, and what it answers is the caller's; whatever it is: also of another type.
func TestAll(t *testing.T) {
	x := planted(t, 60)
	dir := value.State{Kind: value.Directory, Rows: []value.Row{{Key: "a", Val: "set"}, {Key: "b", Val: "queue"}}}
	for _, s := range []value.State{dir, value.New(value.Directory), dir, {Kind: value.Account, N: 3}} {
		mustStore(t, x, Catalog, s)
		mustStore(t, x, "a", value.New(value.Set))
		for range 2 {
			l, e := All(x)
			if !l.Same(s) || e != api.OK {
				t.Errorf("All: %+v, %d, not %+v", l, e, s)
			}
			clear(l.Rows)
		}
	}
}

// mustBe: a name's entries, written by hand among others, and what is loaded of them; zero: nothing, but ErrBad.
func mustBe(t *testing.T, what, name string, l []cursor.Entry, want value.State) {
	t.Helper()
	x := planted(t, 100, l...)
	mustStore(t, x, name+"0", value.State{Kind: value.Set, Rows: rows("a", "b")})
	for _, key := range []string{name + "\x00\x01g", name + "\x00\x01h\x00", name + "\x00\x01q", name + "\x00\x01s", name + "\x00\x02"} {
		x.Put(key, "?")
	}
	if want.Kind == 0 {
		mustRefuse(t, what, x, name, api.ErrBad)
	} else {
		mustLoad(t, x, name, want, true)
	}
}

// handmade: a head, and pieces from 0 on.
func handmade(name, head string, pieces ...string) []cursor.Entry {
	l := []cursor.Entry{{Key: headAt(name), Val: head}}
	for n, piece := range pieces {
		l = append(l, cursor.Entry{Key: pieceAt(name, n), Val: piece})
	}
	return l
}

// P19.1: a head that says nothing is ErrBad, also where the pieces would be those of an object.
func TestBadHead(t *testing.T) {
	for _, name := range []string{"", "a"} {
		for _, head := range []string{
			"", "\x00", "\x01", "\x01\x04", "\x01\x04\x00", "\x01\x04\x00\x01",
			"\x01\x04\x00\x00\x00", "\x01\x04\x00\x00?",
			"\x00\x00\x00", "\x01\x00\x00\x00", "\x01\x08\x00\x00", "\x02\x01\x04\x00\x00", "\x01\xff\x00\x00", "\x09\x04\x00\x00",
			"\x02\x00\x04\x00\x00", "\x01\x04\x01\x00\x00", "\x01\x04\x00\x01\x00", "\x01\x04\x09\x00", "\x01\x04\x00\x01\x09",
			"\x01\x04\x00\x08\xff\xff\xff\xff\xff\xff\xff\xff",
		} {
			mustBe(t, head, name, handmade(name, head), value.State{})
			mustBe(t, head, name, handmade(name, head, "\x00"), value.State{})
		}
		mustBe(t, "nine", name, handmade(name, "\x01\x06\x00\x01\x09", slices.Repeat([]string{"\x00"}, 9)...), value.State{})
		for n := range 9 {
			mustBe(t, "up to eight", name, handmade(name, plainHead(6, 0, n), slices.Repeat([]string{"\x00"}, n)...), value.State{Kind: value.Queue, Rows: make([]value.Row, n)})
		}
	}
}

// P19.1: other than so many pieces, of a directory than twice as many.
func TestBadMany(t *testing.T) {
	for kind := 1; kind <= 7; kind++ {
		for n := range 9 {
			for many := range 20 {
				var pieces []string
				for k := range many {
					pieces = append(pieces, plainText(string([]byte{byte('a' + k)})))
				}
				var want value.State
				switch {
				case kind == value.Directory && many == 2*n:
					want = value.State{Kind: kind}
					for k := 0; k < many; k += 2 {
						want.Rows = append(want.Rows, value.Row{Key: pieces[k][2:], Val: pieces[k+1][2:]})
					}
				case kind == value.Directory || many != n || n > 0 && (kind == value.Counter || kind == value.Account) || n > 1 && kind == value.Register:
				default:
					want = value.State{Kind: kind}
					for _, piece := range pieces {
						want.Rows = append(want.Rows, value.Row{Key: piece[2:]})
					}
				}
				mustBe(t, "many", "a", handmade("a", plainHead(kind, 0, n), pieces...), want)
			}
		}
	}
}

// P19.1: a piece is a text of up to 24 bytes, and nothing else.
func TestBadPiece(t *testing.T) {
	long := strings.Repeat("z", 24)
	good := plainText(long)
	mustBe(t, "24", "a", handmade("a", plainHead(6, 0, 2), good, "\x00"), value.State{Kind: value.Queue, Rows: rows(long, "")})
	mustBe(t, "24", "a", handmade("a", plainHead(5, 0, 2), "\x00", good, good, good), value.State{Kind: value.Directory, Rows: []value.Row{{Val: long}, {Key: long, Val: long}}})
	for _, bad := range []string{
		"", "\x01", "\x01\x01", "\x01\x02a", "\x01\x01ab", "\x00\x00", "\x00a", "\x01\x00", "\x02\x00\x01a", "\x09", "a",
		plainText(long + "z"), plainText(strings.Repeat("z", 30)), good[:25], good + "z",
		plainText("k") + plainText("v"), "\x08\xff\xff\xff\xff\xff\xff\xff\xff",
	} {
		for at := range 3 {
			pieces := []string{plainText("a"), plainText("b"), plainText("c")}
			pieces[at] = bad
			mustBe(t, bad, "a", handmade("a", plainHead(6, 0, 3), pieces...), value.State{})
		}
		for at := range 4 {
			pieces := []string{plainText("a"), "\x00", plainText("c"), "\x00"}
			pieces[at] = bad
			mustBe(t, bad, "", handmade("", plainHead(5, 0, 2), pieces...), value.State{})
		}
	}
	// A directory's row whose texts stand in one piece, or without the second.
	mustBe(t, "one piece", "", handmade("", plainHead(5, 0, 1), plainText("k")+plainText("v")), value.State{})
	mustBe(t, "no second", "", handmade("", plainHead(5, 0, 1), plainText("k")), value.State{})
	mustBe(t, "no second", "", handmade("", plainHead(5, 0, 2), plainText("k"), "\x00", plainText("l")), value.State{})
	mustBe(t, "two pieces of a set", "a", handmade("a", plainHead(4, 0, 1), plainText("k"), plainText("v")), value.State{})
}

// P19.1: rows, and numbers, that may not be.
func TestBadState(t *testing.T) {
	for _, s := range []value.State{
		{Kind: value.Register, Rows: rows("")},
		{Kind: value.Register, Rows: rows("a", "b")},
		{Kind: value.Register, N: 1},
		{Kind: value.Counter, N: 1, Rows: rows("a")},
		{Kind: value.Account, N: -1},
		{Kind: value.Account, Rows: rows("a")},
		{Kind: value.Set, N: 1},
		{Kind: value.Set, N: -1, Rows: rows("a")},
		{Kind: value.Set, Rows: rows("b", "a")},
		{Kind: value.Set, Rows: rows("a", "a")},
		{Kind: value.Directory, Rows: rows("a", "a")},
		{Kind: value.Directory, Rows: []value.Row{{Key: "b", Val: "a"}, {Key: "a", Val: "b"}}},
		{Kind: value.Directory, N: 1},
		{Kind: value.Queue, N: 1, Rows: rows("a")},
		{Kind: value.Semi, Rows: rows("b", "a")},
		{Kind: value.Semi, N: 5},
	} {
		for _, name := range []string{"", "a"} {
			mustBe(t, "state", name, entriesOf(name, s), value.State{})
		}
	}
}

// P19.1: all keys that begin with the Key and an r count, and stand for the pieces in their order, whatever stands behind the r.
func TestAnythingBehind(t *testing.T) {
	behind := []string{"", "\x00", "\x00\x00", "\x00\xff", "\x01", "\x07", "h", "r\x00", "\xfe", "\xff", "\xff\xff"}
	for from := range behind {
		for to := from; to <= len(behind); to++ {
			for n := range 9 {
				l := []cursor.Entry{{Key: headAt("a"), Val: plainHead(6, 0, n)}}
				d := []cursor.Entry{{Key: headAt(""), Val: plainHead(5, 0, n)}}
				var want, wantOf value.State
				for k, b := range behind[from:to] {
					text := string([]byte{byte('a' + k)})
					l = append(l, cursor.Entry{Key: "a\x00\x01r" + b, Val: plainText(text)})
					d = append(d, cursor.Entry{Key: "\x00\x01r" + b, Val: plainText(text)})
				}
				if to-from == n {
					want.Kind = value.Queue
					for k := range n {
						want.Rows = append(want.Rows, value.Row{Key: string([]byte{byte('a' + k)})})
					}
				}
				if to-from == 2*n {
					wantOf.Kind = value.Directory
					for k := range n {
						wantOf.Rows = append(wantOf.Rows, value.Row{Key: string([]byte{byte('a' + 2*k)}), Val: string([]byte{byte('b' + 2*k)})})
					}
				}
				slices.Reverse(l)
				mustBe(t, "behind", "a", l, want)
				mustBe(t, "behind", "", d, wantOf)
			}
		}
	}
}

// P19.1: very many pieces are too many.
func TestVeryMany(t *testing.T) {
	for _, many := range []int{9, 16, 17, 18, 64, 200} {
		x := planted(t, 128, handmade("a", plainHead(6, 0, 8), slices.Repeat([]string{"\x00"}, many)...)...)
		mustRefuse(t, "many", x, "a", api.ErrBad)
		queue := value.State{Kind: value.Queue, Rows: rows("")}
		mustStore(t, x, "a", queue)
		plain{objects: map[string]value.State{"a": queue}}.match(t, x, few)
	}
}
