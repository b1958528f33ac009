package pages

import (
	"math/rand"
	"strings"
	"testing"

	"armoire/api"
	"armoire/device"
)

// lay: a page's bytes are these.
func lay(d *device.Device, id int, b string) {
	for k := range 4 {
		d.Spoil(2+4*id+k, b[64*k:64*k+64])
	}
}

// one: a store with page 2 in use, whose bytes may be laid.
func one(t *testing.T, text string) (*device.Device, *Store) {
	t.Helper()
	d, s, m := formatted(t, Layout{4, 4})
	mustPut(t, s, m, "a", "b", text)
	mustCheckpoint(t, s, m, 2, 1, 1)
	return d, s
}

// P7.1: Read: bytes that are no page's, though their sum is right.
func TestWrongPages(t *testing.T) {
	d, s := one(t, "text")
	x := strings.Repeat("x", 251)
	for _, behind := range []string{
		"\x01\xf9" + x[:249],           // a byte more than Room
		"\x01\xff" + x[:250],           // more than there is
		"\x02\x01\x00" + x[:249],       // 256
		"\x02\x00\x05hello",            // a nought ahead
		"\x01\x00",                     // nought as a digit
		"\x00\x00\x01",                 // something behind
		"\x00" + x[:251],               // all of it
		"\x01\x05hello\x01",            // something behind
		"\x01\xf8" + x[:248] + "\x00a", // its last byte
		"\x01\xf8" + x[:248] + "a",
		"\x09aaaaaaaaa",
		"\xff",
		"\x08\xff\xff\xff\xff\xff\xff\xff\xff",
		"\x08\x80\x00\x00\x00\x00\x00\x00\x00",
	} {
		lay(d, 2, summed(256, behind))
		if text, e := s.Read(2); text != "" || e != api.ErrBad {
			t.Errorf("%x: %q, %d", behind, text, e)
		}
	}
	for _, behind := range []string{"\x00", "\x01\x05hello", "\x01\xf8" + x[:248]} {
		lay(d, 2, summed(256, behind))
		if text, e := s.Read(2); text != strings.TrimLeft(behind[1:], "\x05\xf8") || e != api.OK {
			t.Errorf("%x: %q, %d", behind, text, e)
		}
	}
	for _, b := range []string{strings.Repeat("\x00", 256), strings.Repeat("\xff", 256), strings.Repeat("a", 256)} {
		lay(d, 2, b)
		if text, e := s.Read(2); text != "" || e != api.ErrBad {
			t.Errorf("%x: %q, %d", b[:4], text, e)
		}
	}
}

// P7.1: Read: each bit of a page turned, each sector lost or another one's.
func TestBentPages(t *testing.T) {
	for _, text := range []string{"", "hello", strings.Repeat("\x00", 248), strings.Repeat("z", 248)} {
		d, s := one(t, text)
		b := pageOf(text)
		for bit := range 8 * 256 {
			bent := []byte(b)
			bent[bit/8] ^= 1 << (bit % 8)
			lay(d, 2, string(bent))
			if got, e := s.Read(2); got != "" || e != api.ErrBad {
				t.Fatalf("%q with bit %d turned: %q, %d", text, bit, got, e)
			}
		}
		lay(d, 2, b)
		if got, e := s.Read(2); got != text || e != api.OK {
			t.Errorf("%q: %q, %d", text, got, e)
		}
		// The other pages are as they were.
		if got, e := s.Read(1); got != "b" || e != api.OK {
			t.Errorf("page 1: %q, %d", got, e)
		}
	}
	d, s := one(t, strings.Repeat("z", 200))
	for k := range 4 {
		lay(d, 2, pageOf(strings.Repeat("z", 200)))
		d.Spoil(2+4*2+k, "bent")
		if got, e := s.Read(2); got != "" || e != api.ErrBad {
			t.Errorf("sector %d: %q, %d", k, got, e)
		}
	}
}

// P7.1: Read: any bytes: they are the page of their text, or ErrBad.
func TestAnyPages(t *testing.T) {
	d, s := one(t, "text")
	r := rand.New(rand.NewSource(2))
	good := 0
	for range 20000 {
		n := r.Intn(256)
		behind := make([]byte, 252)
		switch r.Intn(4) {
		case 0:
			r.Read(behind)
		case 1:
			copy(behind, number(n)+strings.Repeat("q", min(n, 250)))
		case 2:
			copy(behind, number(n)+strings.Repeat("q", r.Intn(n+1)))
		case 3:
			copy(behind, number(n)+strings.Repeat("q", min(n, 250)))
			behind[r.Intn(252)] ^= byte(r.Intn(256))
		}
		b := summed(256, string(behind))
		lay(d, 2, b)
		text, e := s.Read(2)
		switch {
		case e == api.OK && len(text) <= 248 && pageOf(text) == b:
			good++
		case e == api.ErrBad && text == "":
			if behind[0] == 1 && behind[1] > 0 && behind[1] <= 248 && strings.Trim(string(behind[2+int(behind[1]):]), "\x00") == "" {
				t.Fatalf("%x: a page that isn't read", behind)
			}
		default:
			t.Fatalf("%x: %q, %d", behind, text, e)
		}
	}
	if good < 1000 {
		t.Errorf("only %d pages", good)
	}
}

// P7.1: Read sees what is loose, too: a device tells what was written last.
func TestReadLoose(t *testing.T) {
	d, s := one(t, "text")
	b := pageOf("other")
	for k := range 4 {
		d.Write(2+4*2+k, b[64*k:64*k+64])
	}
	if text, e := s.Read(2); text != "other" || e != api.OK {
		t.Errorf("%q, %d", text, e)
	}
	d.Crash()
	if text, e := s.Read(2); text != "text" || e != api.OK {
		t.Errorf("%q, %d", text, e)
	}
}
