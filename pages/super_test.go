package pages

import (
	"math/rand"
	"slices"
	"strings"
	"testing"

	"armoire/api"
	"armoire/device"
)

// twoOf: a device of a layout, whose superblocks are these bytes.
func twoOf(t *testing.T, l Layout, a, b string) *device.Device {
	t.Helper()
	d := made(t, l.Total())
	d.Spoil(0, a)
	d.Spoil(1, b)
	return d
}

// mustBad: Open finds no checkpoint, and changes nothing.
func mustBad(t *testing.T, what string, d *device.Device, l Layout) {
	t.Helper()
	ahead := look(d)
	if s, e := Open(d, l); s != nil || e != api.ErrBad {
		t.Errorf("%s: %v, %d", what, s, e)
	}
	if look(d) != ahead {
		t.Errorf("%s: something is changed", what)
	}
}

// mustSay: Open finds this checkpoint.
func mustSay(t *testing.T, what string, d *device.Device, l Layout, u Super, used string) {
	t.Helper()
	ahead := look(d)
	s, e := Open(d, l)
	if s == nil || e != api.OK {
		t.Errorf("%s: %d", what, e)
		return
	}
	if s.Super() != u || s.Text() != used || s.Layout() != l || s.Device() != d || len(s.Dirty()) != 0 || s.Len() != l.Pages || s.Count(2)+s.Count(3) != 0 {
		t.Errorf("%s: %+v, %x, %+v, %v, not %+v, %x", what, s.Super(), s.Text(), s.Layout(), s.Dirty(), u, used)
	}
	if look(d) != ahead {
		t.Errorf("%s: something is changed", what)
	}
}

// P7.1: Open: neither superblock says something.
func TestNoSuper(t *testing.T) {
	l := Layout{4, 4}
	full := superOf(Super{2, -1, 1, 1}, "\x00")
	for _, a := range []string{"", other(0), strings.Repeat("\xff", 64), full[:14], "x" + full[1:]} {
		for _, b := range []string{"", other(1), full[1:]} {
			mustBad(t, "no superblock", twoOf(t, l, a, b), l)
		}
	}
}

// P7.1: Open: the greater one of two; one where the other says nothing; one that stands in the other one's place.
func TestPlaces(t *testing.T) {
	l := Layout{4, 4}
	super := func(gen int) string { return superOf(Super{gen, -1, gen, 7}, "\x02") }
	for a := range 7 {
		for b := range 7 {
			first, second := "", ""
			if a > 0 {
				first = super(a)
			}
			if b > 0 {
				second = super(b)
			}
			d := twoOf(t, l, first, second)
			gen, at := a, 0
			if b > a {
				gen, at = b, 1
			}
			if gen == 0 || gen%2 != at {
				mustBad(t, "places", d, l)
			} else {
				mustSay(t, "places", d, l, Super{gen, -1, gen, 7}, "\x02")
			}
		}
	}
	// The greatest one there may be.
	mustSay(t, "2^40", twoOf(t, l, super(maxStamp), super(maxStamp-1)), l, Super{maxStamp, -1, maxStamp, 7}, "\x02")
	mustBad(t, "2^40 + 1", twoOf(t, l, "", stampedOf(maxStamp+1, 0, dataOf(-1, 1, 1, "\x02"))), l)
}

// P7.1: Open: the greater superblock is the one that counts, also where it is none and the other one would do.
func TestGreaterBad(t *testing.T) {
	l := Layout{4, 4}
	good := superOf(Super{1, -1, 1, 1}, "\x00")
	mustBad(t, "data", twoOf(t, l, stampedOf(2, 0, "what"), good), l)
	mustBad(t, "place", twoOf(t, l, superOf(Super{3, -1, 1, 1}, "\x00"), good), l)
	mustBad(t, "mark", twoOf(t, l, stampedOf(2, 1, dataOf(-1, 1, 1, "\x00")), good), l)
	mustBad(t, "root", twoOf(t, l, superOf(Super{2, 0, 1, 1}, "\x02"), good), l)
	mustSay(t, "the lesser one", twoOf(t, l, superOf(Super{2, -1, 1, 1}, "\x00"), stampedOf(1, 9, "what")), l, Super{2, -1, 1, 1}, "\x00")
}

// P7.1: Open: data that aren't a superblock's, one by one.
func TestWrongData(t *testing.T) {
	l := Layout{10, 4}
	good := dataOf(3, 9, 5, "\x0e\x02")
	mustSay(t, "good", twoOf(t, l, stampedOf(4, 0, good), ""), l, Super{4, 3, 9, 5}, "\x0e\x02")
	wrong := map[string]string{
		"nothing":          "",
		"root 10":          dataOf(10, 9, 5, "\x0e\x02"),
		"root far":         dataOf(1<<40, 9, 5, "\x0e\x02"),
		"log 0":            dataOf(3, 0, 5, "\x0e\x02"),
		"log far":          dataOf(3, maxStamp+1, 5, "\x0e\x02"),
		"next far":         dataOf(3, 9, maxStamp+1, "\x0e\x02"),
		"root not in use":  dataOf(4, 9, 5, "\x0e\x02"),
		"root 0":           dataOf(0, 9, 5, "\x0e\x02"),
		"no bytes":         dataOf(-1, 9, 5, ""),
		"a byte":           dataOf(3, 9, 5, "\x0e"),
		"three bytes":      dataOf(3, 9, 5, "\x0e\x02\x00"),
		"page 10":          dataOf(3, 9, 5, "\x0e\x04"),
		"page 15":          dataOf(3, 9, 5, "\x0e\x80"),
		"something behind": good + "\x00",
		"more behind":      good + "abc",
		"noughts ahead":    "\x02\x00\x04" + good[2:],
		"a long number":    "\x09" + good[1:],
		"a great number":   "\x08\xff\xff\xff\xff\xff\xff\xff\xff" + good[2:],
	}
	for n := range len(good) {
		wrong["cut to "+good[:n]] = good[:n]
	}
	for what, data := range wrong {
		mustBad(t, what, twoOf(t, l, stampedOf(4, 0, data), ""), l)
	}
	for mark := 1; mark < 256; mark++ {
		mustBad(t, "mark", twoOf(t, l, stampedOf(4, mark, good), ""), l)
	}
	// Edges that may be.
	mustSay(t, "root 9", twoOf(t, l, stampedOf(4, 0, dataOf(9, 1, 0, "\x00\x02")), ""), l, Super{4, 9, 1, 0}, "\x00\x02")
	mustSay(t, "greatest", twoOf(t, l, stampedOf(4, 0, dataOf(-1, maxStamp, maxStamp, "\xff\x03")), ""), l, Super{4, -1, maxStamp, maxStamp}, "\xff\x03")
	// Of another layout.
	mustBad(t, "17 pages", twoOf(t, Layout{17, 4}, stampedOf(4, 0, good), ""), Layout{17, 4})
	mustBad(t, "9 pages", twoOf(t, Layout{9, 4}, stampedOf(4, 0, good), ""), Layout{9, 4})
	mustSay(t, "16 pages", twoOf(t, Layout{16, 4}, stampedOf(4, 0, good), ""), Layout{16, 4}, Super{4, 3, 9, 5}, "\x0e\x02")
}

// read: a number at the front of bytes as layer 2 spells it: it, what is behind, is it one?
func read(b string) (int, string, bool) {
	if b == "" || b[0] > 6 || len(b) < 1+int(b[0]) {
		return 0, "", false
	}
	n := 0
	for _, c := range []byte(b[1 : 1+int(b[0])]) {
		n = n*256 + int(c)
	}
	return n, b[1+int(b[0]):], strings.HasPrefix(b, number(n))
}

// says: what a superblock's data say, found by trying to spell it again.
func says(gen, pages int, data string) (Super, string, bool) {
	root, b, ok1 := read(data)
	log, b, ok2 := read(b)
	next, b, ok3 := read(b)
	size, b, ok4 := read(b)
	if !ok1 || !ok2 || !ok3 || !ok4 || size != len(b) || size != (pages+7)/8 {
		return Super{}, "", false
	}
	if root > pages || log < 1 || log > maxStamp || next > maxStamp {
		return Super{}, "", false
	}
	in := func(id int) bool { return b[id/8]>>(id%8)&1 == 1 }
	for id := pages; id < 8*size; id++ {
		if in(id) {
			return Super{}, "", false
		}
	}
	if root > 0 && !in(root-1) {
		return Super{}, "", false
	}
	return Super{gen, root - 1, log, next}, b, true
}

// P7.1: Open: any data, near those of superblocks and far from them, held against another reader of them.
func TestAnyData(t *testing.T) {
	r := rand.New(rand.NewSource(3))
	good, bad := 0, 0
	for range 12000 {
		l := Layout{[]int{4, 7, 8, 9, 16, 17, 127, 128}[r.Intn(8)], 4}
		used := make([]byte, (l.Pages+7)/8)
		for id := range l.Pages {
			used[id/8] |= byte(r.Intn(2)) << (id % 8)
		}
		some := func() int {
			return []int{0, 1, r.Intn(300), maxStamp, maxStamp + r.Intn(3) - 1, r.Intn(maxStamp)}[r.Intn(6)]
		}
		data := []byte(dataOf(r.Intn(l.Pages+2)-1, some(), some(), string(used)))
		for range r.Intn(3) {
			switch at := r.Intn(len(data)); r.Intn(4) {
			case 0:
				data[at] ^= 1 << r.Intn(8)
			case 1:
				data[at] = byte(r.Intn(256))
			case 2:
				data = slices.Delete(data, at, at+1)
			case 3:
				data = slices.Insert(data, at, byte(r.Intn(3)))
			}
		}
		if len(data) > 44 {
			continue
		}
		gen := 1 + r.Intn(1000)
		two := []string{"", ""}
		two[gen%2] = stampedOf(gen, 0, string(data))
		d := twoOf(t, l, two[0], two[1])
		if u, text, ok := says(gen, l.Pages, string(data)); ok {
			mustSay(t, "any data", d, l, u, text)
			good++
		} else {
			mustBad(t, "any data", d, l)
			bad++
		}
		if t.Failed() {
			t.Fatalf("%+v, gen %d: %x", l, gen, data)
		}
	}
	if good < 1500 || bad < 1500 {
		t.Errorf("%d good, %d bad", good, bad)
	}
}

// P7.1, P7: Open: any bytes as both superblocks; it ends with ErrBad, or with a store that can be asked all things.
func TestAnySectors(t *testing.T) {
	r := rand.New(rand.NewSource(4))
	l := Layout{9, 4}
	opened := 0
	sector := func() string {
		b := make([]byte, r.Intn(70))
		r.Read(b)
		gen := 1 + r.Intn(6)
		good := superOf(Super{gen, r.Intn(10) - 1, 1 + r.Intn(99), r.Intn(99)}, "\xff\x01")
		switch r.Intn(5) {
		case 0:
			return string(b)
		case 1:
			return summed(64, string(b[:min(len(b), 60)]))
		case 2:
			bent := []byte(good)
			bent[r.Intn(64)] ^= 1 << r.Intn(8)
			return string(bent)
		}
		return good
	}
	for range 5000 {
		d := twoOf(t, l, sector(), sector())
		ahead := look(d)
		s, e := Open(d, l)
		if look(d) != ahead {
			t.Fatal("Open changes something")
		}
		if e == api.ErrBad && s == nil {
			continue
		}
		if e != api.OK || s == nil {
			t.Fatalf("%v, %d", s, e)
		}
		opened++
		u := s.Super()
		if d.Image()[u.Gen%2] != superOf(u, s.Text()) {
			t.Fatalf("%+v, %x", u, s.Text())
		}
		for id := -1; id < 11; id++ {
			s.Read(id)
			s.Give(id)
		}
		s.Put("a")
		if e := s.Checkpoint(-1, 1, 1); e != api.OK {
			t.Fatalf("Checkpoint: %d", e)
		}
	}
	if opened < 500 {
		t.Errorf("only %d were opened", opened)
	}
}

// P7.1: Open reads loose superblocks, too, as the device does; its error where the power is gone comes behind ErrArg alone.
func TestOpenDevice(t *testing.T) {
	l := Layout{4, 4}
	d := twoOf(t, l, "", superOf(Super{1, -1, 1, 1}, "\x00"))
	d.Write(0, superOf(Super{2, -1, 3, 4}, "\x01"))
	mustSay(t, "loose", d, l, Super{2, -1, 3, 4}, "\x01")
	d.Crash()
	mustSay(t, "lost", d, l, Super{1, -1, 1, 1}, "\x00")
	for _, d := range []*device.Device{powerless(d), powerless(made(t, l.Total()))} {
		if s, e := Open(d, l); s != nil || e != api.ErrDown {
			t.Errorf("without power: %v, %d", s, e)
		}
	}
}
