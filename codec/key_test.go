package codec

import (
	"slices"
	"strings"
	"testing"

	"armoire/api"
)

// lists: all lists of up to most of these parts.
func lists(parts []string, most int) [][]string {
	l := [][]string{nil}
	last := l
	for range most {
		var next [][]string
		for _, a := range last {
			for _, p := range parts {
				next = append(next, append(slices.Clone(a), p))
			}
		}
		l = append(l, next...)
		last = next
	}
	return l
}

// P2.1: Key's bytes.
func TestKey(t *testing.T) {
	for _, x := range []struct {
		parts []string
		want  string
	}{
		{nil, ""},
		{[]string{}, ""},
		{[]string{""}, "\x00\x01"},
		{[]string{"", ""}, "\x00\x01\x00\x01"},
		{[]string{"a", ""}, "a\x00\x01\x00\x01"},
		{[]string{"\x00"}, "\x00\xff\x00\x01"},
		{[]string{"\x00\x00"}, "\x00\xff\x00\xff\x00\x01"},
		{[]string{"\xff", "\x01"}, "\xff\x00\x01\x01\x00\x01"},
		{[]string{"a\x00b", "", "c"}, "a\x00\xffb\x00\x01\x00\x01c\x00\x01"},
		{[]string{"\x00\xff\x00\x01"}, "\x00\xff\xff\x00\xff\x01\x00\x01"},
		{[]string{"é"}, "\xc3\xa9\x00\x01"},
	} {
		if s := Key(x.parts...); s != x.want {
			t.Errorf("Key(%q): %x", x.parts, s)
		}
	}
}

// P2.1: Parts' errors: the first one, byte by byte, and no parts beside it.
func TestPartsErrors(t *testing.T) {
	for _, x := range []struct {
		key  string
		want api.Errno
	}{
		{"a", api.ErrEnd},
		{"\xff", api.ErrEnd},
		{"\x00", api.ErrEnd},
		{"a\x00", api.ErrEnd},
		{"\x00\xff", api.ErrEnd},
		{"a\x00\x01b", api.ErrEnd},
		{"a\x00\x01\x00", api.ErrEnd},
		{"a\x00\x01\x00\xff", api.ErrEnd},
		{"\x00\x00", api.ErrForm},
		{"\x00\x02", api.ErrForm},
		{"\x00\xfe", api.ErrForm},
		{"a\x00a", api.ErrForm},
		{"\x00\x00\x00", api.ErrForm},
		{"\x00\x00\x01", api.ErrForm},
		{"a\x00\x01\x00\x02\x00\x01", api.ErrForm},
		{"\x00\x02\x00", api.ErrForm},
		{"\x00\xff\x00\x00\x01", api.ErrForm},
	} {
		if l, e := Parts(x.key); l != nil || e != x.want {
			t.Errorf("Parts(%x): %q, %d, not %d", x.key, l, e, x.want)
		}
	}
	for b := range 256 {
		want := api.ErrForm
		if b == 0x01 || b == 0xff {
			want = api.OK
		}
		if _, e := Parts("x\x00" + string([]byte{byte(b)}) + "\x00\x01"); e != want {
			t.Errorf("behind a byte 00 a byte %02x: %d", b, e)
		}
	}
}

// P2.2: keys there and back; no parts are none.
func TestKeyThereAndBack(t *testing.T) {
	if l, e := Parts(""); len(l) != 0 || e != api.OK {
		t.Errorf("Parts of no bytes: %q, %d", l, e)
	}
	all := append(lists(shortTexts("\x00\x01a\xff", 2), 2), lists([]string{"", "\x00", "\x01", "\xff"}, 5)...)
	all = append(all, []string{strings.Repeat("\x00", 1000), "", strings.Repeat("é\x00\x01", 1000)})
	for _, parts := range all {
		if l, e := Parts(Key(parts...)); e != api.OK || !slices.Equal(l, parts) {
			t.Errorf("%q, as a key and back: %q, %d", parts, l, e)
		}
	}
}

// P2.2: a key has one spelling: of all short texts, those that have parts are these parts' key.
func TestKeyOneSpelling(t *testing.T) {
	found := 0
	for _, s := range shortTexts("\x00\x01\x02a\xff", 7) {
		l, e := Parts(s)
		if e != api.OK {
			continue
		}
		found++
		if k := Key(l...); k != s {
			t.Errorf("Parts(%x): %q, whose key is %x", s, l, k)
		}
	}
	if found < 100 {
		t.Errorf("only %d of the texts are keys", found)
	}
}

// P2.3: keys of as many parts stand as their parts.
func TestKeyOrder(t *testing.T) {
	byCount := map[int][][]string{
		1: lists(shortTexts("\x00\x01a\xff", 3), 1),
		2: lists(shortTexts("\x00\x01\xff", 2), 2),
		3: lists([]string{"", "\x00", "\x00\x01", "\x01", "\xff"}, 3),
	}
	for count, all := range byCount {
		all = slices.DeleteFunc(all, func(l []string) bool { return len(l) != count })
		for _, a := range all {
			for _, b := range all {
				if got, want := strings.Compare(Key(a...), Key(b...)), slices.Compare(a, b); got != want {
					t.Fatalf("keys of %q, %q: %d, not %d", a, b, got, want)
				}
			}
		}
	}
}

// P2.3: a key of the first parts stands ahead of all with more behind.
func TestKeyOfFirstParts(t *testing.T) {
	parts := []string{"", "\x00", "\x00\xff", "\x01", "a", "\xff"}
	for _, first := range lists(parts, 2) {
		for _, more := range lists(parts, 2) {
			if a, b := Key(first...), Key(append(slices.Clone(first), more...)...); len(more) > 0 && a >= b {
				t.Errorf("the key of %q stands behind that with %q", first, more)
			}
		}
	}
}

// P2.4: the key of parts, and of others behind them.
func TestKeyBehindKey(t *testing.T) {
	parts := []string{"", "\x00", "\x00\x01", "\x01", "a\x00", "\xff"}
	for _, first := range lists(parts, 2) {
		for _, others := range lists(parts, 2) {
			if k := Key(append(slices.Clone(first), others...)...); k != Key(first...)+Key(others...) {
				t.Errorf("Key of %q and %q: %x", first, others, k)
			}
		}
	}
}

// K3: a list of parts stays as it is, and lists that are answered share nothing.
func TestKeySharesNothing(t *testing.T) {
	parts := []string{"a\x00", "", "b"}
	key := Key(parts...)
	one, _ := Parts(key)
	two, _ := Parts(key)
	one[0] = "changed"
	if !slices.Equal(parts, []string{"a\x00", "", "b"}) || !slices.Equal(two, parts) {
		t.Errorf("%q, %q", parts, two)
	}
}
