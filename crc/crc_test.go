package crc

import (
	"hash/crc32"
	"math/bits"
	"math/rand"
	"strings"
	"testing"
)

// someTexts: of all lengths up to most, the same ones each time.
func someTexts(most int) []string {
	r := rand.New(rand.NewSource(1))
	l := []string{"", "\x00", "\xff", "é€", strings.Repeat("\x00", most), strings.Repeat("\xff", most)}
	for size := range most + 1 {
		l = append(l, someText(r, size))
	}
	return l
}

func someText(r *rand.Rand, size int) string {
	b := make([]byte, size)
	r.Read(b)
	return string(b)
}

func xor(a, b string) string {
	l := []byte(a)
	for k := range l {
		l[k] ^= b[k]
	}
	return string(l)
}

// flip turns the bits of pattern in a text, the pattern's lowest one at that place, from the first byte's lowest bit on.
func flip(text string, place int, pattern uint32) string {
	b := []byte(text)
	for k := range 32 {
		if pattern>>k&1 == 1 {
			b[(place+k)/8] ^= 1 << ((place + k) % 8)
		}
	}
	return string(b)
}

// P1.1: Of, Value, Add: known sums.
func TestKnownSums(t *testing.T) {
	for _, x := range []struct {
		text string
		want uint32
	}{
		{"", 0},
		{"a", 0xe8b7be43},
		{"123456789", 0xcbf43926},
		{"\x00", 0xd202ef8d},
		{"\xff", 0xff000000},
		{"\x00\x00\x00\x00", 0x2144df1c},
		{"\xff\xff\xff\xff", 0xffffffff},
		{"The quick brown fox jumps over the lazy dog", 0x414fa339},
	} {
		if n := Of(x.text); n != x.want {
			t.Errorf("Of(%q): %08x, not %08x", x.text, n, x.want)
		}
		var s Sum
		s.Add(x.text)
		if n := s.Value(); n != x.want {
			t.Errorf("Value of %q: %08x, not %08x", x.text, n, x.want)
		}
	}
}

// P1.1: each byte and many texts against the library's sum.
func TestAgainstLibrary(t *testing.T) {
	l := someTexts(300)
	for b := range 256 {
		l = append(l, string([]byte{byte(b)}))
	}
	for _, text := range l {
		if n, want := Of(text), crc32.ChecksumIEEE([]byte(text)); n != want {
			t.Errorf("Of(%q): %08x, not %08x", text, n, want)
		}
	}
}

// P1.1: no bytes, in every way of giving none.
func TestNoBytes(t *testing.T) {
	var s Sum
	if s.Value() != 0 {
		t.Errorf("the zero Sum: %08x", s.Value())
	}
	s.Add("")
	if s.Value() != 0 {
		t.Errorf("an empty text: %08x", s.Value())
	}
	if Of() != 0 || Of(nil...) != 0 || Of([]string{}...) != 0 || Of("") != 0 || Of("", "", "") != 0 {
		t.Errorf("Of of no bytes: %08x, %08x, %08x", Of(), Of(""), Of("", "", ""))
	}
}

// P1.1: Bytes: the lowest first, always four.
func TestBytes(t *testing.T) {
	for _, x := range []struct {
		n    uint32
		want string
	}{
		{0, "\x00\x00\x00\x00"},
		{1, "\x01\x00\x00\x00"},
		{0x01020304, "\x04\x03\x02\x01"},
		{0x80000000, "\x00\x00\x00\x80"},
		{0xcbf43926, "\x26\x39\xf4\xcb"},
		{0xffffffff, "\xff\xff\xff\xff"},
	} {
		if s := Bytes(x.n); s != x.want {
			t.Errorf("Bytes(%08x): %x", x.n, s)
		}
	}
}

// P1.2: in whatever parts.
func TestParts(t *testing.T) {
	const text = "\x00\xffarmoire\x00\x80 123456789 é€"
	want := Of(text)
	for a := range len(text) + 1 {
		for b := a; b <= len(text); b++ {
			if n := Of(text[:a], text[a:b], "", text[b:]); n != want {
				t.Errorf("Of, parts at %d and %d: %08x, not %08x", a, b, n, want)
			}
			var s Sum
			s.Add(text[:a])
			s.Add(text[a:b])
			s.Add(text[b:])
			if n := s.Value(); n != want {
				t.Errorf("Add, parts at %d and %d: %08x, not %08x", a, b, n, want)
			}
		}
	}
	if n := Of(strings.Split(text, "")...); n != want {
		t.Errorf("rune by rune: %08x, not %08x", n, want)
	}
}

// P1.2: a Sum that was asked goes on.
func TestValueBetween(t *testing.T) {
	const text = "123456789"
	var s Sum
	for k := range len(text) {
		if s.Value() != Of(text[:k]) || s.Value() != Of(text[:k]) {
			t.Errorf("Value behind %d bytes: %08x", k, s.Value())
		}
		s.Add(text[k : k+1])
	}
	if s.Value() != Of(text) {
		t.Errorf("Value of all: %08x", s.Value())
	}
}

// P1.2: Sums are values: what one takes, its copy doesn't.
func TestCopiedSum(t *testing.T) {
	var a Sum
	a.Add("1234")
	b := a
	a.Add("56789")
	b.Add("x")
	if a.Value() != Of("123456789") || b.Value() != Of("1234x") {
		t.Errorf("copies: %08x, %08x", a.Value(), b.Value())
	}
}

// P1.3: short patterns all of them, longer ones by samples, at every place of texts of several lengths.
func TestSideBySide(t *testing.T) {
	r := rand.New(rand.NewSource(3))
	patterns := []uint32{1 << 31, 1<<31 | 1, 0xffffffff, 0xedb88320, 0x82608edb, 0xdb710641}
	for n := uint32(1); n < 1<<9; n++ {
		patterns = append(patterns, n)
	}
	for range 200 {
		patterns = append(patterns, r.Uint32()|1)
	}
	for _, size := range []int{1, 2, 3, 4, 5, 8, 13, 64} {
		text := someText(r, size)
		sum := Of(text)
		for _, pattern := range patterns {
			for place := 0; place+bits.Len32(pattern) <= 8*size; place++ {
				if pattern != 0 && Of(flip(text, place, pattern)) == sum {
					t.Fatalf("%x, otherwise at %d by %08x: the same sum %08x", text, place, pattern, sum)
				}
			}
		}
	}
}

// P1.3: for all 2^32 patterns at once: what 32 single bits side by side change in a sum is independent, so that no choice of them (by P1.4) changes nothing.
func TestSideBySideAll(t *testing.T) {
	const size = 72
	text := strings.Repeat("\x00", size)
	sum := Of(text)
	for place := 0; place+32 <= 8*size; place++ {
		var rows [32]uint32 // by their highest bit
		for k := range 32 {
			n := Of(flip(text, place+k, 1)) ^ sum
			for n != 0 && rows[bits.Len32(n)-1] != 0 {
				n ^= rows[bits.Len32(n)-1]
			}
			if n == 0 {
				t.Fatalf("at %d: the bit %d changes what others do", place, k)
			}
			rows[bits.Len32(n)-1] = n
		}
	}
}

// P1.4.
func TestThreeXored(t *testing.T) {
	r := rand.New(rand.NewSource(4))
	for size := range 100 {
		a, b, c := someText(r, size), someText(r, size), someText(r, size)
		if n, want := Of(xor(xor(a, b), c)), Of(a)^Of(b)^Of(c); n != want {
			t.Errorf("%x, %x, %x: %08x, not %08x", a, b, c, n, want)
		}
		if n := Of(xor(xor(a, b), b)); n != Of(a) {
			t.Errorf("%x, %x twice: %08x", a, b, n)
		}
	}
}

// K3, K4: what Of is handed stays, and it answers the same again.
func TestOfLeavesList(t *testing.T) {
	l := []string{"12", "", "3456", "789"}
	first := Of(l...)
	if first != Of(l...) || first != 0xcbf43926 || strings.Join(l, "|") != "12||3456|789" {
		t.Errorf("Of: %08x, then %08x, of %q", first, Of(l...), l)
	}
}
