package wal

import (
	"math"
	"math/rand"
	"slices"
	"strings"
	"testing"

	"armoire/api"
	"armoire/device"
	"armoire/stamp"
)

// P5.1: Scan's errors, in their order, with nil and 0 beside them; it changes nothing.
func TestScanErrors(t *testing.T) {
	with := made(t, 12)
	add(t, opened(t, with, Area{2, 8}, 1), "a", "b")
	for _, d := range []*device.Device{with, powerless(with)} {
		ahead := look(d)
		for _, a := range wrongAreas() {
			for _, from := range []int{1, 7, maxStamp} {
				if l, end, e := Scan(d, a, from); l != nil || end != 0 || e != api.ErrArg {
					t.Errorf("Scan(%+v, %d): %+v, %d, %d", a, from, l, end, e)
				}
			}
		}
		for _, a := range goodAreas() {
			for _, from := range []int{1, 7, maxStamp} {
				l, end, e := Scan(d, a, from)
				if d.Down() && (l != nil || end != 0 || e != api.ErrDown) || !d.Down() && (end < from || e != api.OK) {
					t.Errorf("Scan(%+v, %d), down %v: %+v, %d, %d", a, from, d.Down(), l, end, e)
				}
			}
		}
		if look(d) != ahead {
			t.Error("Scan changes something")
		}
	}
}

// P1: of numbers that aren't stamps a Scan finds nothing, and ends there.
func TestScanFromNoStamp(t *testing.T) {
	d, a := made(t, 12), Area{2, 8}
	add(t, opened(t, d, a, 1), "a", "b", "c", "d", "e", "f", "g", "h")
	for _, from := range append(noStamps(), -7, -8, -9) {
		mustScan(t, "no stamp", d, a, from, nil, from)
	}
}

// kinds: how a sector of a Scan may stand: marks of its stamp; 8 and more: such that end it.
var kinds = []int{0, 1, 2, 3, 4, 5, 7, 8, 9, 10}

// lay: a sector of one of these kinds, at the place of a stamp.
func lay(d *device.Device, a Area, at, kind int) {
	s := stamp.Sector{Stamp: at, Mark: byte(kind), Data: data(at)}
	place := a.From + at%a.Len
	switch kind {
	case 8: // a round too old
		s.Stamp, s.Mark = at-a.Len, 3
	case 9: // a round too new
		s.Stamp, s.Mark = at+a.Len, 3
	case 10:
		d.Spoil(place, "nothing")
		return
	}
	d.Spoil(place, s.Text())
}

// data: not all of one length, and some empty: a record's pieces needn't be full.
func data(at int) string {
	return strings.Repeat(string([]byte{byte('a' + at%26)}), at*at%45)
}

// found: what a Scan finds of such sectors, by the document's words: first how far it goes, then which records are whole.
func found(from int, laid []int) ([]Record, int) {
	n, open := 0, false
	for n < len(laid) && laid[n] <= 3 && (laid[n]%2 == 1) == !open {
		open = laid[n] < 2
		n++
	}
	var l []Record
	first := 0
	for k := range n {
		if laid[k] >= 2 {
			var s string
			for j := first; j <= k; j++ {
				s += data(from + j)
			}
			l = append(l, Record{from + first, from + k, s})
			first = k + 1
		}
	}
	return l, from + first
}

// P5.1: Scan, of all ways in which four sectors may stand, in an area of just these: it goes round at most once.
func TestScanAllWays(t *testing.T) {
	a := Area{1, 4}
	for way := range 10 * 10 * 10 * 10 {
		from := 100 + way%4
		laid := []int{kinds[way/1000], kinds[way/100%10], kinds[way/10%10], kinds[way%10]}
		d, _ := device.New(6)
		for k, kind := range laid {
			lay(d, a, from+k, kind)
		}
		want, end := found(from, laid)
		mustScan(t, "all ways", d, a, from, want, end)
		if t.Failed() {
			t.Fatalf("%v", laid)
		}
	}
}

// P5.1: the same of longer ones, at chance, in greater areas, mostly such as may follow one another.
func TestScanLong(t *testing.T) {
	r := rand.New(rand.NewSource(5))
	for range 20000 {
		a := Area{r.Intn(5), 2 + r.Intn(20)}
		from := 30 + r.Intn(1000)
		d, _ := device.New(a.From + a.Len + r.Intn(3))
		var laid []int
		open := false
		for k := range a.Len {
			kind := 1 + 2*r.Intn(2)
			if open {
				kind = 2 * r.Intn(2)
			}
			open = kind < 2
			if r.Intn(20) == 0 {
				kind = kinds[r.Intn(len(kinds))]
			}
			laid = append(laid, kind)
			lay(d, a, from+k, kind)
		}
		want, end := found(from, laid)
		mustScan(t, "long", d, a, from, want, end)
		if t.Failed() {
			t.Fatalf("%v", laid)
		}
	}
}

// P5.1: an area that is full is scanned to its end, and not round again, also if the last record is open.
func TestScanFull(t *testing.T) {
	for length := 2; length < 8; length++ {
		d, a := made(t, 10), Area{2, length}
		l := opened(t, d, a, 5)
		done := add(t, l, "a", text(44*(length-1)))
		mustScan(t, "full", d, a, 5, done, 5+length)
		mustScan(t, "full, from its second", d, a, 6, done[1:], 5+length)
		s, _, _ := stamp.Read(d, 2+(4+length)%length)
		s.Mark &^= Last
		stamp.Write(d, 2+(4+length)%length, s)
		mustScan(t, "full, open", d, a, 5, done[:1], 6)
		mustScan(t, "full, from a record's middle", d, a, 7, nil, 7)
	}
}

// P5.1: a mark's higher bits aren't passed over.
func TestScanMarks(t *testing.T) {
	a := Area{0, 3}
	for mark := range 256 {
		d, _ := device.New(3)
		stamp.Write(d, 1, stamp.Sector{Stamp: 4, Mark: byte(mark), Data: "x"})
		var want []Record
		end := 4
		if mark == 3 {
			want, end = []Record{{4, 4, "x"}}, 5
		}
		mustScan(t, "a mark", d, a, 4, want, end)
	}
}

// P5.1: Scan tells what is loose as well as what lasts, and a new list each time.
func TestScanLoose(t *testing.T) {
	d, a := made(t, 12), Area{2, 8}
	l := opened(t, d, a, 1)
	done := add(t, l, "a")
	l.Force()
	done = append(done, add(t, l, text(60), "c")...)
	one, _, _ := Scan(d, a, 1)
	for k := range one {
		one[k] = Record{}
	}
	mustScan(t, "again", d, a, 1, done, 5)
	mustScan(t, "from the second", d, a, 2, done[1:], 5)
	mustScan(t, "from the next", d, a, 5, nil, 5)
	d.Crash(0, 2)
	mustScan(t, "one half lasts", d, a, 1, done[:1], 2)
	mustScan(t, "behind the gap", d, a, 4, done[2:], 5)
}

// P5.1: a Scan of records as long as a device takes.
func TestScanGreat(t *testing.T) {
	d, e := device.New(1 << 12)
	if e != api.OK {
		t.Fatal(e)
	}
	a := Area{0, 1 << 12}
	l := opened(t, d, a, 4000)
	done := add(t, l, text(44*4000))
	l.Force()
	done = append(done, add(t, l, text(44*96))...)
	l.Force()
	mustScan(t, "great", d, a, 4000, done, 4000+1<<12)
}

// P5.1: Resume's errors, in their order: the stamp's ahead of the area's, ahead of the device's.
func TestResumeErrors(t *testing.T) {
	with := made(t, 12)
	add(t, opened(t, with, Area{2, 8}, 1), "a", "b")
	for _, d := range []*device.Device{with, powerless(with)} {
		ahead := look(d)
		must := func(a Area, head int, want api.Errno) {
			t.Helper()
			if l, r, e := Resume(d, a, head); l != nil || r != nil || e != want {
				t.Errorf("Resume(%+v, %d): %v, %+v, %d, not %d", a, head, l != nil, r, e, want)
			}
		}
		for _, head := range noStamps() {
			for _, a := range slices.Concat(wrongAreas(), goodAreas()) {
				must(a, head, api.ErrStamp)
			}
		}
		for _, head := range []int{1, 7, maxStamp} {
			for _, a := range wrongAreas() {
				must(a, head, api.ErrArg)
			}
			for _, a := range goodAreas() {
				if d.Down() {
					must(a, head, api.ErrDown)
				}
			}
		}
		if look(d) != ahead {
			t.Error("Resume changes something")
		}
	}
}

// P5.1: Resume wipes just the places behind what is found, one behind the other from its end on, and forces all.
func TestResumeWipes(t *testing.T) {
	a := Area{2, 8}
	for head := 1; head < 20; head++ {
		for n := range 9 {
			for left := -1; left < 10; left++ {
				d := made(t, 12)
				l := opened(t, d, a, head)
				var done []Record
				for range n {
					done = append(done, add(t, l, "x")...)
				}
				l.Force()
				d.Write(0, "beside")
				d.Arm(left)
				m, got, e := Resume(d, a, head)
				wiped, flushed := 8-n, left < 0 || left > 8-n
				if !flushed {
					wiped = min(wiped, left)
					if m != nil || got != nil || e != api.ErrDown || d.Loose() != 1+wiped || !d.Down() {
						t.Fatalf("%d records, %d calls left: %v, %+v, %d, %d loose", n, left, m != nil, got, e, d.Loose())
					}
				} else {
					if e != api.OK || !slices.Equal(got, done) || d.Loose() != 0 || d.Calls() != n+2+wiped+1 {
						t.Fatalf("%d records: %+v, %d, %d loose, %d calls", n, got, e, d.Loose(), d.Calls())
					}
					mustBe(t, "resumed", m, head, head+n, 8-n)
				}
				d.Crash(0, 1, 2, 3, 4, 5, 6, 7, 8)
				for at, s := range d.Image() {
					k := (at - 2 - head%8 + 8) % 8
					inside := at >= 2 && at < 10
					want := other(at)
					switch {
					case at == 0:
						want = "beside" + strings.Repeat("\x00", 58)
					case inside && k < n:
						want = stamp.Sector{Stamp: head + k, Mark: 3, Data: "x"}.Text()
					case inside && k < n+wiped:
						want = strings.Repeat("\x00", 64)
					}
					if s != want {
						t.Fatalf("head %d, %d records, %d calls left: sector %d: %q", head, n, left, at, s)
					}
				}
			}
		}
	}
}

// P5.1: a record that is open is wiped from its first sector on; a log goes on in its place.
func TestResumeOpenRecord(t *testing.T) {
	d, a := made(t, 12), Area{2, 8}
	l := opened(t, d, a, 6)
	done := add(t, l, "a", text(150), "behind")
	d.Crash(0, 1, 2, 3, 5)
	m, got, e := Resume(d, a, 6)
	if e != api.OK || !slices.Equal(got, done[:1]) {
		t.Fatalf("Resume: %+v, %d", got, e)
	}
	mustBe(t, "resumed", m, 6, 7, 7)
	for at := 7; at < 14; at++ {
		if s, _ := d.Read(2 + at%8); s != strings.Repeat("\x00", 64) {
			t.Errorf("stamp %d: %q", at, s)
		}
	}
	next := add(t, m, text(150))
	mustScan(t, "on", d, a, 6, append(got, next...), 11)
}

// P1: places of stamps above the greatest are wiped, too; of any sectors a Resume ends.
func TestResumeAtTheTop(t *testing.T) {
	for head := maxStamp - 9; head <= maxStamp; head++ {
		d, a := made(t, 12), Area{2, 8}
		m, got, e := Resume(d, a, head)
		if e != api.OK || len(got) != 0 || d.Calls() != 9 {
			t.Fatalf("head %d: %+v, %d", head, got, e)
		}
		mustBe(t, "top", m, head, head, 8)
		for at, s := range d.Image() {
			if inside := at >= 2 && at < 10; inside != (s == strings.Repeat("\x00", 64)) {
				t.Errorf("head %d: sector %d: %q", head, at, s)
			}
		}
	}
}

// K4: a log's calls hang on nothing but the calls: two logs of like devices are like.
func TestTwice(t *testing.T) {
	var images []string
	for range 2 {
		d, a := made(t, 12), Area{2, 8}
		l := opened(t, d, a, math.MaxInt32)
		add(t, l, "a", text(90), "c")
		l.Force()
		l.Trim(l.Next() - 1)
		add(t, l, text(100))
		d.Crash(1)
		Resume(d, a, l.Head())
		images = append(images, strings.Join(d.Image(), ""))
	}
	if images[0] != images[1] {
		t.Error("two runs differ")
	}
}
