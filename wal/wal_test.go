package wal

import (
	"math"
	"slices"
	"strings"
	"testing"

	"armoire/api"
	"armoire/device"
	"armoire/stamp"
)

const maxStamp = 1 << 40

// made: a device, all of whose sectors say something that no log would: what is left alone is seen to be.
func made(t *testing.T, n int) *device.Device {
	t.Helper()
	d, e := device.New(n)
	if e != api.OK {
		t.Fatalf("New(%d): %d", n, e)
	}
	for at := range n {
		d.Spoil(at, other(at))
	}
	return d
}

// other: what stands in a sector that nobody wrote.
func other(at int) string {
	return strings.Repeat(string([]byte{byte('A' + at%26)}), 64)
}

func opened(t *testing.T, d *device.Device, a Area, next int) *Log {
	t.Helper()
	l, e := Open(d, a, next)
	if e != api.OK || l == nil {
		t.Fatalf("Open(%+v, %d): %d", a, next, e)
	}
	return l
}

// text: so many bytes, of which 94 pieces one behind the other are all unlike.
func text(n int) string {
	b := make([]byte, n)
	for k := range b {
		b[k] = byte('!' + (k*7+k/44)%94)
	}
	return string(b)
}

// add: records, all of which the log must take.
func add(t *testing.T, l *Log, texts ...string) []Record {
	t.Helper()
	var done []Record
	for _, s := range texts {
		r, e := l.Append(s)
		if e != api.OK {
			t.Fatalf("Append of %d bytes: %d", len(s), e)
		}
		done = append(done, r)
	}
	return done
}

// seen: all that can be asked of a device without a change.
type seen struct {
	loose, calls   int
	down           bool
	image, sectors string
}

func look(d *device.Device) seen {
	s := seen{loose: d.Loose(), calls: d.Calls(), down: d.Down(), image: strings.Join(d.Image(), "|")}
	for at := range d.Len() {
		text, e := d.Read(at)
		s.sectors += text + string(rune('a'+e))
	}
	return s
}

func mustBe(t *testing.T, what string, l *Log, head, next, free int) {
	t.Helper()
	if l.Head() != head || l.Next() != next || l.Free() != free {
		t.Errorf("%s: head %d, next %d, free %d, not %d, %d, %d", what, l.Head(), l.Next(), l.Free(), head, next, free)
	}
}

func mustScan(t *testing.T, what string, d *device.Device, a Area, from int, want []Record, end int) {
	t.Helper()
	got, to, e := Scan(d, a, from)
	if !slices.Equal(got, want) || to != end || e != api.OK {
		t.Errorf("%s: Scan(%+v, %d): %+v, %d, %d, not %+v, %d", what, a, from, got, to, e, want, end)
	}
}

func powerless(d *device.Device) *device.Device {
	c := d.Clone()
	c.Arm(0)
	c.Flush()
	return c
}

func TestMarks(t *testing.T) {
	if First != 1 || Last != 2 {
		t.Errorf("First %d, Last %d", First, Last)
	}
}

// wrongAreas: those that may not be on a device of 12 sectors.
func wrongAreas() []Area {
	return []Area{
		{}, {0, 1}, {0, -1}, {3, 1}, {0, math.MinInt}, {11, 1}, {0, math.MinInt + 1},
		{-1, 2}, {-1, 12}, {-1, 13}, {math.MinInt, 2}, {math.MinInt, math.MaxInt}, {-1, 1},
		{0, 13}, {1, 12}, {10, 3}, {11, 2}, {12, 2}, {5, 8}, {13, 2},
		{0, math.MaxInt}, {1, math.MaxInt}, {math.MaxInt, 2}, {math.MaxInt, math.MaxInt}, {math.MaxInt - 1, 4},
		{math.MaxInt, 0}, {math.MinInt, math.MinInt},
	}
}

func goodAreas() []Area {
	return []Area{{0, 2}, {0, 12}, {1, 11}, {10, 2}, {2, 8}, {3, 3}, {9, 3}, {0, 11}}
}

// P5.1: Check: all edges, on a device with power and without; it asks nothing of the device but its size.
func TestCheck(t *testing.T) {
	with := made(t, 12)
	for _, d := range []*device.Device{with, powerless(with)} {
		ahead := look(d)
		for _, a := range wrongAreas() {
			if e := a.Check(d); e != api.ErrArg {
				t.Errorf("%+v: %d", a, e)
			}
		}
		for _, a := range goodAreas() {
			if e := a.Check(d); e != api.OK {
				t.Errorf("%+v: %d", a, e)
			}
		}
		if look(d) != ahead {
			t.Error("Check changes something")
		}
	}
	for size := 1; size < 7; size++ {
		d := made(t, size)
		for from := -2; from < 9; from++ {
			for length := -2; length < 9; length++ {
				may := from >= 0 && length >= 2 && from+length <= size
				if e := (Area{from, length}).Check(d); (e == api.OK) != may || !may && e != api.ErrArg {
					t.Errorf("%d, %d of %d sectors: %d", from, length, size, e)
				}
			}
		}
	}
}

// noStamps: numbers that aren't stamps.
func noStamps() []int {
	return []int{math.MinInt, -maxStamp, -1, 0, maxStamp + 1, maxStamp + 2, math.MaxInt}
}

// P5.1: Open: the area's error ahead of the stamp's; nothing is written, and no power is needed.
func TestOpen(t *testing.T) {
	with := made(t, 12)
	for _, d := range []*device.Device{with, powerless(with)} {
		ahead := look(d)
		for _, a := range wrongAreas() {
			for _, next := range append(noStamps(), 1, maxStamp) {
				if l, e := Open(d, a, next); l != nil || e != api.ErrArg {
					t.Errorf("Open(%+v, %d): %v, %d", a, next, l != nil, e)
				}
			}
		}
		for _, a := range goodAreas() {
			for _, next := range noStamps() {
				if l, e := Open(d, a, next); l != nil || e != api.ErrStamp {
					t.Errorf("Open(%+v, %d): %v, %d", a, next, l != nil, e)
				}
			}
			for _, next := range []int{1, 2, 14, maxStamp - 1, maxStamp} {
				mustBe(t, "Open", opened(t, d, a, next), next, next, a.Len)
			}
		}
		if look(d) != ahead {
			t.Error("Open changes something")
		}
	}
}

// P5.1: Cost: by counting, and of numbers that no text has.
func TestCost(t *testing.T) {
	want := 1
	for n := range 2000 {
		if n > want*44 {
			want++
		}
		if Cost(n) != want {
			t.Errorf("Cost(%d): %d, not %d", n, Cost(n), want)
		}
	}
	for _, n := range []int{-1, -44, -45, -1000, math.MinInt} {
		if Cost(n) != 1 {
			t.Errorf("Cost(%d): %d", n, Cost(n))
		}
	}
	if n := Cost(math.MaxInt); n != math.MaxInt/44+1 {
		t.Errorf("Cost of the greatest: %d", n)
	}
}

// P5.1: Beyond.
func TestBeyond(t *testing.T) {
	for _, x := range []struct {
		a          Area
		next, want int
	}{
		{Area{2, 8}, 18, 26}, {Area{0, 2}, 1, 3}, {Area{7, 12}, 7, 19}, {Area{0, 5}, maxStamp, maxStamp + 5}, {Area{3, 4}, 0, 4},
	} {
		if n := Beyond(x.a, x.next); n != x.want {
			t.Errorf("Beyond(%+v, %d): %d, not %d", x.a, x.next, n, x.want)
		}
	}
}

// mustStand: a record's sectors, at their places: told by the document's words, not by the program's.
func mustStand(t *testing.T, d *device.Device, a Area, r Record) {
	t.Helper()
	left := r.Text
	for at := r.First; at <= r.Last; at++ {
		data := left[:min(44, len(left))]
		left = left[len(data):]
		mark := byte(0)
		if at == r.First {
			mark++
		}
		if at == r.Last {
			mark += 2
		}
		s, says, e := stamp.Read(d, a.From+at%a.Len)
		if want := (stamp.Sector{Stamp: at, Mark: mark, Data: data}); s != want || !says || e != api.OK {
			t.Errorf("stamp %d: %+v, %v, %d, not %+v", at, s, says, e, want)
		}
	}
	if left != "" {
		t.Errorf("%+v leaves %d bytes", r, len(left))
	}
}

// P5.1: Append: every length that an area takes, from every place on: its sectors, loose, and no others.
func TestAppend(t *testing.T) {
	a := Area{2, 8}
	for next := 14; next < 14+8; next++ {
		for n := range 8*44 + 1 {
			d := made(t, 12)
			l := opened(t, d, a, next)
			r, e := l.Append(text(n))
			cost := max(1, (n+43)/44)
			if want := (Record{next, next + cost - 1, text(n)}); r != want || e != api.OK {
				t.Fatalf("Append of %d bytes at %d: %+v, %d", n, next, r, e)
			}
			mustBe(t, "Append", l, next, next+cost, 8-cost)
			mustStand(t, d, a, r)
			if d.Calls() != cost || d.Loose() != cost {
				t.Errorf("Append of %d bytes: %d calls, %d loose", n, d.Calls(), d.Loose())
			}
			for at := range 12 {
				mine := at >= 2 && at < 10 && (at-2-next%8+8)%8 < cost
				if s, _ := d.Read(at); (s != other(at)) != mine {
					t.Errorf("Append of %d bytes at %d: sector %d", n, next, at)
				}
				if d.Image()[at] != other(at) {
					t.Errorf("sector %d lasts already", at)
				}
			}
		}
	}
}

// P5.1: the chapter's example.
func TestExample(t *testing.T) {
	d := made(t, 10)
	l := opened(t, d, Area{0, 10}, 7)
	if r, e := l.Append(text(100)); r != (Record{7, 9, text(100)}) || e != api.OK {
		t.Errorf("Append: %+v, %d", r, e)
	}
	for k, mark := range []byte{1, 0, 2} {
		if s, says, _ := stamp.Read(d, 7+k); !says || s.Stamp != 7+k || s.Mark != mark {
			t.Errorf("sector %d: %+v, %v", 7+k, s, says)
		}
	}
}

// P5.1: Append: rising, sector by sector: what the power leaves of it is its beginning.
func TestAppendPower(t *testing.T) {
	a := Area{1, 6}
	for next := 6; next < 12; next++ {
		for left := range 6 {
			d := made(t, 9)
			l := opened(t, d, a, next)
			first := add(t, l, "ahead")
			d.Arm(left)
			r, e := l.Append(text(200)) // five sectors
			if left == 5 {
				if e != api.OK || l.Free() != 0 {
					t.Errorf("as many calls as it needs: %d", e)
				}
				continue
			}
			if r != (Record{}) || e != api.ErrDown || d.Loose() != 1+left {
				t.Errorf("%d calls left: %+v, %d, %d loose", left, r, e, d.Loose())
			}
			mustBe(t, "broken off", l, next, next+1, 5)
			if r, e := l.Append("x"); r != (Record{}) || e != api.ErrDown || d.Loose() != 1+left {
				t.Errorf("without power: %+v, %d", r, e)
			}
			all := []int{0, 1, 2, 3, 4, 5}
			c := d.Clone()
			c.Crash(all...)
			for k := range 5 {
				at := next + 1 + k
				s, says, _ := stamp.Read(c, 1+at%6)
				if says != (k < left) || says && (s.Stamp != at || s.Data != text(200)[44*k:min(44*k+44, 200)]) {
					t.Errorf("%d calls left: stamp %d: %+v, %v", left, at, s, says)
				}
			}
			mustScan(t, "broken off", c, a, next, first, next+1)
			d.Crash(all...)
			second := add(t, l, text(90))
			if want := (Record{next + 1, next + 3, text(90)}); second[0] != want {
				t.Errorf("with power again: %+v, not %+v", second[0], want)
			}
			mustScan(t, "with power again", d, a, next, append(first, second...), next+4)
		}
	}
}

// mustRefuse: an Append that is refused, with nothing changed.
func mustRefuse(t *testing.T, what string, d *device.Device, l *Log, text string, want api.Errno) {
	t.Helper()
	head, next, free, ahead := l.Head(), l.Next(), l.Free(), look(d)
	if r, e := l.Append(text); r != (Record{}) || e != want {
		t.Errorf("%s: Append of %d bytes: %+v, %d, not %d", what, len(text), r, e, want)
	}
	mustBe(t, what, l, head, next, free)
	if look(d) != ahead {
		t.Errorf("%s: an Append that is refused changes something", what)
	}
}

// P5.1: Append's errors in their order: no place, no stamp, no power.
func TestAppendErrors(t *testing.T) {
	with := made(t, 12)
	for _, d := range []*device.Device{with, powerless(with)} {
		top := opened(t, d, Area{2, 4}, maxStamp-1) // four sectors are free, two stamps are left
		mustRefuse(t, "both", d, top, text(4*44+1), api.ErrLog)
		mustRefuse(t, "both", d, top, text(100000), api.ErrLog)
		mustRefuse(t, "no stamp", d, top, text(4*44), api.ErrStamp)
		mustRefuse(t, "no stamp", d, top, text(2*44+1), api.ErrStamp)
		one := opened(t, d, Area{2, 4}, maxStamp)
		mustRefuse(t, "no stamp", d, one, text(45), api.ErrStamp)
		low := opened(t, d, Area{0, 2}, 1)
		mustRefuse(t, "no place", d, low, text(89), api.ErrLog)
		if d.Down() {
			mustRefuse(t, "no power", d, top, text(2*44), api.ErrDown)
			mustRefuse(t, "no power", d, one, "", api.ErrDown)
			mustRefuse(t, "no power", d, low, text(88), api.ErrDown)
		}
	}
}

// P5.1: an Append that is refused doesn't take a call of those that the power leaves.
func TestRefusedIsNoCall(t *testing.T) {
	d := made(t, 12)
	low, top := opened(t, d, Area{0, 2}, 1), opened(t, d, Area{2, 4}, maxStamp)
	d.Arm(1)
	mustRefuse(t, "armed", d, low, text(89), api.ErrLog)
	mustRefuse(t, "armed", d, top, text(45), api.ErrStamp)
	add(t, low, "x")
	mustRefuse(t, "armed by 0", d, low, text(45), api.ErrLog)
	if d.Down() || low.Force() != api.ErrDown {
		t.Error("the power goes otherwise")
	}
}

// P5.1: the last stamp is used; behind it there is none.
func TestLastStamp(t *testing.T) {
	d, a := made(t, 12), Area{2, 4}
	l := opened(t, d, a, maxStamp-2)
	done := add(t, l, "a", text(88))
	if done[1] != (Record{maxStamp - 1, maxStamp, text(88)}) {
		t.Errorf("the last one: %+v", done[1])
	}
	mustStand(t, d, a, done[1])
	mustBe(t, "behind it", l, maxStamp-2, maxStamp+1, 1)
	mustRefuse(t, "behind it", d, l, "", api.ErrStamp)
	mustRefuse(t, "behind it", d, l, text(45), api.ErrLog)
	mustScan(t, "all", d, a, maxStamp-2, done, maxStamp+1)
	mustScan(t, "the last", d, a, maxStamp, nil, maxStamp)
	if l.Trim(maxStamp+1) != api.OK {
		t.Error("Trim of all")
	}
	mustBe(t, "trimmed", l, maxStamp+1, maxStamp+1, 4)
	mustRefuse(t, "trimmed", d, l, "", api.ErrStamp)
	m, found, e := Resume(d, a, maxStamp-2)
	if e != api.OK || !slices.Equal(found, done) {
		t.Fatalf("Resume: %+v, %d", found, e)
	}
	mustBe(t, "resumed", m, maxStamp-2, maxStamp+1, 1)
	mustRefuse(t, "resumed", d, m, "", api.ErrStamp)
}

// P5.1: a log goes round: full, trimmed, full again, over what isn't needed any more.
func TestGoesRound(t *testing.T) {
	for length := 2; length < 7; length++ {
		d, a := made(t, 9), Area{1, length}
		l := opened(t, d, a, 3)
		var kept []Record
		for k := range 60 {
			s := text(k * 17 % (44 * length))
			for l.Free() < Cost(len(s)) {
				mustRefuse(t, "full", d, l, s, api.ErrLog)
				kept = kept[1:]
				to := l.Next()
				if len(kept) > 0 {
					to = kept[0].First
				}
				if e := l.Trim(to); e != api.OK {
					t.Fatalf("Trim(%d): %d", to, e)
				}
			}
			kept = append(kept, add(t, l, s)...)
			for _, r := range kept {
				mustStand(t, d, a, r)
			}
			mustBe(t, "round", l, kept[0].First, kept[len(kept)-1].Last+1, length-kept[len(kept)-1].Last-1+kept[0].First)
			mustScan(t, "round", d, a, l.Head(), kept, l.Next())
		}
		for at, s := range d.Image() {
			if s != other(at) {
				t.Errorf("sector %d lasts otherwise", at)
			}
		}
	}
}

// P5.1: Force: the device's Flush, and its error.
func TestForce(t *testing.T) {
	d, a := made(t, 12), Area{2, 8}
	l := opened(t, d, a, 1)
	if e := l.Force(); e != api.OK || d.Calls() != 1 {
		t.Errorf("Force of nothing: %d, %d calls", e, d.Calls())
	}
	done := add(t, l, "a", text(50))
	d.Write(11, "beside")
	if e := l.Force(); e != api.OK || d.Loose() != 0 || d.Calls() != 6 {
		t.Errorf("Force: %d, %d loose, %d calls", e, d.Loose(), d.Calls())
	}
	mustBe(t, "forced", l, 1, 4, 5)
	add(t, l, "b")
	d.Arm(0)
	for range 2 {
		if e := l.Force(); e != api.ErrDown || d.Loose() != 1 || !d.Down() {
			t.Errorf("Force without power: %d, %d loose", e, d.Loose())
		}
	}
	mustBe(t, "not forced", l, 1, 5, 4)
	d.Crash()
	mustScan(t, "crashed", d, a, 1, done, 4)
	if s, _ := d.Read(11); !strings.HasPrefix(s, "beside\x00") {
		t.Errorf("what was written beside: %q", s)
	}
}

// P5.1: Trim: all numbers around the head and the next stamp; it asks nothing of the device.
func TestTrim(t *testing.T) {
	d := made(t, 12)
	for to := 8; to < 20; to++ {
		l := opened(t, d, Area{2, 8}, 9)
		add(t, l, "a", text(80), "b", "")
		if e := l.Trim(10); e != api.OK {
			t.Errorf("Trim(10): %d", e)
		}
		l.device.Arm(0)
		ahead, head, want := look(d), 10, api.ErrArg
		if to >= 10 && to <= 14 {
			head, want = to, api.OK
		}
		if e := l.Trim(to); e != want {
			t.Errorf("Trim(%d): %d, not %d", to, e, want)
		}
		mustBe(t, "Trim", l, head, 14, 8-14+head)
		if look(d) != ahead {
			t.Errorf("Trim(%d) changes the device", to)
		}
		for _, wrong := range []int{math.MinInt, -1, 0, 9, math.MaxInt, maxStamp, 15} {
			if e := l.Trim(wrong); e != api.ErrArg {
				t.Errorf("Trim(%d): %d", wrong, e)
			}
		}
		mustBe(t, "Trim, refused", l, head, 14, 8-14+head)
		d.Arm(-1)
	}
}

// P1: a Log that wasn't opened takes nothing, and doesn't panic.
func TestZeroLog(t *testing.T) {
	var l Log
	if r, e := l.Append(""); r != (Record{}) || e != api.ErrLog {
		t.Errorf("Append: %+v, %d", r, e)
	}
	if l.Force() != api.OK || l.Trim(0) != api.OK || l.Trim(1) != api.ErrArg || l.Trim(-1) != api.ErrArg {
		t.Error("Force, Trim")
	}
	mustBe(t, "zero", &l, 0, 0, 0)
}
