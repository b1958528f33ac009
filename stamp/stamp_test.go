package stamp

import (
	"hash/crc32"
	"math"
	"math/bits"
	"math/rand"
	"strings"
	"testing"

	"armoire/api"
	"armoire/device"
)

const maxStamp = 1 << 40

// sealed: these bytes, with bytes 0 behind, and their sum ahead: as a sector's ought to be, whatever they say.
func sealed(behind string) string {
	behind += strings.Repeat("\x00", 60-len(behind))
	n := crc32.ChecksumIEEE([]byte(behind))
	return string([]byte{byte(n), byte(n >> 8), byte(n >> 16), byte(n >> 24)}) + behind
}

// sectors: with stamps, marks and data at their edges.
func sectors() []Sector {
	var l []Sector
	for _, n := range []int{1, 2, 127, 255, 256, 300, 1<<16 - 1, 1 << 16, 1 << 32, maxStamp - 1, maxStamp} {
		for _, mark := range []byte{0, 1, 2, 3, 127, 128, 255} {
			for _, data := range []string{"", "\x00", "a", "\x00a\x00", "é€", "\xff", strings.Repeat("\x00", 44), strings.Repeat("\xff", 44), strings.Repeat("x", 43)} {
				l = append(l, Sector{n, mark, data})
			}
		}
	}
	return l
}

// wrongSectors: each with the error that Check answers.
func wrongSectors() map[Sector]api.Errno {
	big := strings.Repeat("x", 45)
	return map[Sector]api.Errno{
		{}:                                      api.ErrStamp,
		{Mark: 1, Data: "a"}:                    api.ErrStamp,
		{Stamp: -1}:                             api.ErrStamp,
		{Stamp: math.MinInt}:                    api.ErrStamp,
		{Stamp: maxStamp + 1}:                   api.ErrStamp,
		{Stamp: math.MaxInt}:                    api.ErrStamp,
		{Stamp: 0, Data: big}:                   api.ErrStamp,
		{Stamp: maxStamp + 1, Data: big}:        api.ErrStamp,
		{Stamp: 1, Data: big}:                   api.ErrBig,
		{Stamp: maxStamp, Mark: 255, Data: big}: api.ErrBig,
		{Stamp: 1, Data: strings.Repeat("\x00", 1000)}: api.ErrBig,
	}
}

func made(t *testing.T, n int) *device.Device {
	t.Helper()
	d, e := device.New(n)
	if e != api.OK {
		t.Fatalf("New: %d", e)
	}
	return d
}

// mustSayNothing: of bytes that are amiss Parse answers this error, and Read of a device that has them nothing.
func mustSayNothing(t *testing.T, d *device.Device, text string, want api.Errno) {
	t.Helper()
	if s, e := Parse(text); s != (Sector{}) || e != want {
		t.Errorf("Parse(%x): %+v, %d, not %d", text, s, e, want)
	}
	if len(text) != 64 {
		return
	}
	d.Spoil(0, text)
	if s, ok, e := Read(d, 0); s != (Sector{}) || ok || e != api.OK {
		t.Errorf("Read of %x: %+v, %v, %d", text, s, ok, e)
	}
}

// P4.1: Check's edges and the order of its errors.
func TestCheck(t *testing.T) {
	if Room != 44 {
		t.Errorf("Room: %d", Room)
	}
	for _, s := range sectors() {
		if e := s.Check(); e != api.OK {
			t.Errorf("Check of %+v: %d", s, e)
		}
	}
	for s, want := range wrongSectors() {
		if e := s.Check(); e != want {
			t.Errorf("Check of %+v: %d, not %d", s, e, want)
		}
	}
}

// P4.1: Text's bytes, and the sum of all of them ahead.
func TestText(t *testing.T) {
	for _, x := range []struct {
		s      Sector
		behind string
	}{
		{Sector{1, 2, ""}, "\x01\x01\x01\x02\x00"},
		{Sector{300, 7, "abc"}, "\x02\x01\x2c\x01\x07\x01\x03abc"},
		{Sector{1, 0, "\x00"}, "\x01\x01\x00\x01\x01\x00"},
		{Sector{255, 255, ""}, "\x01\xff\x01\xff\x00"},
		{Sector{maxStamp, 255, strings.Repeat("x", 44)}, "\x06\x01\x00\x00\x00\x00\x00\x01\xff\x01\x2c" + strings.Repeat("x", 44)},
		{Sector{maxStamp - 1, 3, "é"}, "\x05\xff\xff\xff\xff\xff\x01\x03\x01\x02\xc3\xa9"},
	} {
		if text := x.s.Text(); text != sealed(x.behind) {
			t.Errorf("Text of %+v: %x", x.s, text)
		}
	}
	for _, s := range sectors() {
		text := s.Text()
		if len(text) != 64 || text != sealed(text[4:]) {
			t.Errorf("Text of %+v: %x", s, text)
		}
	}
}

// P4.1: Parse: not 64 bytes is told ahead of the sum.
func TestParseLengths(t *testing.T) {
	text := Sector{1, 2, "abc"}.Text()
	for size := range 64 {
		mustSayNothing(t, nil, text[:size], api.ErrEnd)
		mustSayNothing(t, nil, text[64-size:], api.ErrEnd)
		mustSayNothing(t, nil, strings.Repeat("\x00", size), api.ErrEnd)
	}
	for _, more := range []string{"\x00", "a", text} {
		mustSayNothing(t, nil, text+more, api.ErrEnd)
	}
}

// P4.1: Parse: another sum is told ahead of what stands behind.
func TestParseSum(t *testing.T) {
	d := made(t, 1)
	for _, text := range []string{
		strings.Repeat("\x00", 64),
		strings.Repeat("\xff", 64),
		"\x00\x00\x00\x00" + Sector{1, 2, "abc"}.Text()[4:],
		"\x00\x00\x00\x00\x09" + strings.Repeat("\x00", 59),
		"\x00\x00\x00\x00\x00\x02\x01\x00" + strings.Repeat("\x01", 56),
	} {
		mustSayNothing(t, d, text, api.ErrSum)
	}
	text := []byte(Sector{1, 2, "abc"}.Text())
	text[0], text[3] = text[3], text[0] // the sum, the highest first
	text[1], text[2] = text[2], text[1]
	mustSayNothing(t, d, string(text), api.ErrSum)
}

// P4.1: Parse: the first error of the bytes behind the sum, then a stamp of 0, or what stands behind all.
func TestParseBehindSum(t *testing.T) {
	d := made(t, 1)
	x45 := "\x01\x2d" + strings.Repeat("x", 45)
	for _, x := range []struct {
		behind string
		want   api.Errno
	}{
		{"\x09\x01\x01\x02\x00", api.ErrForm},                                // the stamp: no number
		{"\x01\x00\x01\x02\x00", api.ErrForm},                                // a byte 0 ahead
		{"\x06\x01\x00\x00\x00\x00\x01\x01\x02\x00", api.ErrBig},             // 2^40 + 1
		{"\x06\xff\xff\xff\xff\xff\xff\x01\x02\x00", api.ErrBig},             // more
		{"\x08\xff\xff\xff\xff\xff\xff\xff\xff\x01\x02\x00", api.ErrBig},     // 2^64 - 1
		{"\x01\x01\x09", api.ErrForm},                                        // the mark
		{"\x01\x01\x01\x00\x00", api.ErrForm},                                //
		{"\x01\x01\x02\x01\x00\x00", api.ErrBig},                             // 256
		{"\x01\x01\x08\xff\xff\xff\xff\xff\xff\xff\xff\x00", api.ErrBig},     //
		{"\x01\x01\x01\x02\xff", api.ErrForm},                                // the data
		{"\x01\x01\x01\x02\x01\x00", api.ErrForm},                            //
		{"\x01\x01\x01\x02" + x45, api.ErrBig},                               // 45 bytes
		{"\x01\x01\x01\x02\x08\xff\xff\xff\xff\xff\xff\xff\xff", api.ErrBig}, //
		{"\x02\x01\x00\x02\x01\x00\x09", api.ErrBig},                         // the mark's ahead of the data's
		{"\x08\xff\xff\xff\xff\xff\xff\xff\xff\x09", api.ErrBig},             // the stamp's ahead of the mark's
		{"", api.ErrForm},                                 // all 0: the stamp is
		{"\x00\x01\x02\x00", api.ErrForm},                 // the stamp is 0
		{"\x00\x01\x02\x01\x03abc", api.ErrForm},          //
		{"\x00\x02\x01\x00\x00", api.ErrBig},              // the mark's is told ahead of a stamp of 0
		{"\x00\x01\x02" + x45, api.ErrBig},                // the data's, too
		{"\x00\x01\x02\x00\x01", api.ErrForm},             // both
		{"\x01\x01\x01\x02\x00\x01", api.ErrForm},         // a byte right behind the data
		{"\x01\x01\x01\x02\x00\x00\x00\xff", api.ErrForm}, // a byte behind bytes 0
	} {
		mustSayNothing(t, d, sealed(x.behind), x.want)
	}
}

// P4.1: Parse: any byte behind the data, at each place.
func TestParseRest(t *testing.T) {
	d := made(t, 1)
	for _, s := range []Sector{{1, 2, ""}, {300, 7, "abc"}, {maxStamp, 255, strings.Repeat("x", 44)}} {
		text := s.Text()
		used := len(strings.TrimRight(text[4:], "\x00"))
		if s.Data == "" {
			used++ // how many bytes the data has
		}
		for at := used; at < 60; at++ {
			for _, b := range []byte{1, 0x20, 0x80, 0xff} {
				behind := []byte(text[4:])
				behind[at] = b
				mustSayNothing(t, d, sealed(string(behind)), api.ErrForm)
			}
		}
	}
}

// P4.2: there and back, as bytes and on a device.
func TestThereAndBack(t *testing.T) {
	d := made(t, 2)
	for _, s := range sectors() {
		if x, e := Parse(s.Text()); x != s || e != api.OK {
			t.Errorf("%+v, as bytes and back: %+v, %d", s, x, e)
		}
		if e := Write(d, 1, s); e != api.OK {
			t.Errorf("Write of %+v: %d", s, e)
		}
		if x, ok, e := Read(d, 1); x != s || !ok || e != api.OK {
			t.Errorf("%+v, written and read: %+v, %v, %d", s, x, ok, e)
		}
		if text, _ := d.Read(1); text != s.Text() {
			t.Errorf("%+v, on a device: %x", s, text)
		}
	}
}

// P4.2: no two sectors have the same bytes.
func TestSectorsDiffer(t *testing.T) {
	by := map[string]Sector{}
	for _, s := range sectors() {
		if other, ok := by[s.Text()]; ok && other != s {
			t.Errorf("%+v and %+v have the same bytes", s, other)
		}
		by[s.Text()] = s
	}
}

// P4.2: one spelling: bytes that say something are those of what they say: of sectors with a byte or two otherwise, under the right sum, and of chance ones.
func TestOneSpelling(t *testing.T) {
	r := rand.New(rand.NewSource(1))
	found := 0
	try := func(behind string) {
		text := sealed(behind)
		s, e := Parse(text)
		if e != api.OK {
			return
		}
		found++
		if s.Text() != text || s.Check() != api.OK {
			t.Errorf("%x is read as %+v", text, s)
		}
	}
	for _, s := range []Sector{{1, 2, ""}, {1, 0, "\x00"}, {300, 7, "abc"}, {maxStamp, 255, strings.Repeat("x", 44)}, {maxStamp - 1, 0, strings.Repeat("\x00", 44)}} {
		for at := range 60 {
			for b := range 256 {
				behind := []byte(s.Text()[4:])
				behind[at] = byte(b)
				try(string(behind))
				behind[r.Intn(60)] = byte(r.Intn(4))
				try(string(behind))
			}
		}
	}
	for range 50000 {
		behind := make([]byte, r.Intn(12))
		for k := range behind {
			behind[k] = byte(r.Intn(4))
		}
		try(string(behind))
	}
	if found < 1000 {
		t.Errorf("only %d say something", found)
	}
}

// flip turns the bits of pattern in a text, the pattern's lowest one at that place, from the first byte's lowest bit on.
func flip(text string, place int, pattern uint32) string {
	b := []byte(text)
	for k := range bits.Len32(pattern) {
		if pattern>>k&1 == 1 {
			b[(place+k)/8] ^= 1 << ((place + k) % 8)
		}
	}
	return string(b)
}

// P4.3: short patterns all of them, longer ones by samples, at every place of the sum, and of what stands behind.
func TestBitsTurned(t *testing.T) {
	r := rand.New(rand.NewSource(3))
	patterns := []uint32{1 << 31, 1<<31 | 1, 0xffffffff, 0xedb88320, 0x82608edb, 0xdb710641}
	for n := uint32(1); n < 1<<8; n++ {
		patterns = append(patterns, n)
	}
	for range 100 {
		patterns = append(patterns, r.Uint32()|1)
	}
	d := made(t, 1)
	for _, s := range []Sector{{1, 2, ""}, {300, 7, "abc"}, {maxStamp, 255, strings.Repeat("x", 44)}} {
		text := s.Text()
		for _, pattern := range patterns {
			size := bits.Len32(pattern)
			for place := 0; place+size <= 512; place++ {
				if place < 32 && place+size > 32 {
					continue // across both: nothing is promised
				}
				mustSayNothing(t, d, flip(text, place, pattern), api.ErrSum)
			}
			if t.Failed() {
				t.Fatalf("%+v, pattern %08x", s, pattern)
			}
		}
	}
}

// P4.3: whatever other sum stands ahead.
func TestOtherSums(t *testing.T) {
	r := rand.New(rand.NewSource(4))
	d := made(t, 1)
	text := Sector{300, 7, "abc"}.Text()
	for range 20000 {
		if pattern := r.Uint32(); pattern != 0 {
			mustSayNothing(t, d, flip(text, 0, pattern), api.ErrSum)
		}
	}
}

// P4.1: Read: the device's errors, in its order.
func TestReadErrors(t *testing.T) {
	d := made(t, 2)
	Write(d, 0, Sector{1, 2, "a"})
	d.Arm(0)
	for _, down := range []bool{false, true} {
		if down {
			d.Flush()
		}
		for _, at := range []int{math.MinInt, -1, 2, math.MaxInt} {
			if s, ok, e := Read(d, at); s != (Sector{}) || ok || e != api.ErrArg {
				t.Errorf("Read(%d), down %v: %+v, %v, %d", at, down, s, ok, e)
			}
		}
	}
	for at := range 2 {
		if s, ok, e := Read(d, at); s != (Sector{}) || ok || e != api.ErrDown {
			t.Errorf("Read(%d), down: %+v, %v, %d", at, s, ok, e)
		}
	}
}

// P4.1: Read: a sector that says nothing is no error; one that was written says what it says, loose or lasting.
func TestRead(t *testing.T) {
	d := made(t, 2)
	a, b := Sector{1, 2, "a"}, Sector{2, 0, "b"}
	nothing := func(what string, at int) {
		t.Helper()
		if s, ok, e := Read(d, at); s != (Sector{}) || ok || e != api.OK {
			t.Errorf("%s: %+v, %v, %d", what, s, ok, e)
		}
	}
	says := func(what string, at int, want Sector) {
		t.Helper()
		if s, ok, e := Read(d, at); s != want || !ok || e != api.OK {
			t.Errorf("%s: %+v, %v, %d", what, s, ok, e)
		}
	}
	nothing("a new device", 0)
	Write(d, 0, a)
	says("loose", 0, a)
	nothing("the other sector", 1)
	d.Flush()
	Write(d, 0, b)
	Write(d, 1, b)
	says("written again", 0, b)
	d.Crash(1)
	says("of those two one lasts", 0, a)
	says("of those two one lasts", 1, b)
	d.Spoil(0, "")
	nothing("spoilt", 0)
	d.Spoil(0, b.Text())
	says("laid there", 0, b)
	d.Write(0, a.Text()[:63]) // the last byte is a 0
	says("with a byte 0 behind", 0, a)
	d.Write(0, "anything")
	nothing("other bytes", 0)
}

// P4.1: Write: Check's errors ahead of the device's; nothing is written then, and the power doesn't go by it.
func TestWriteErrors(t *testing.T) {
	for _, left := range []int{-1, 0, 1} {
		d := made(t, 1)
		d.Arm(left)
		for s, want := range wrongSectors() {
			for _, at := range []int{-1, 0, 1} {
				if e := Write(d, at, s); e != want {
					t.Errorf("Write(%d) of %+v: %d, not %d", at, s, e, want)
				}
			}
		}
		for _, at := range []int{math.MinInt, -1, 1, math.MaxInt} {
			if e := Write(d, at, Sector{1, 2, "a"}); e != api.ErrArg {
				t.Errorf("Write(%d): %d", at, e)
			}
		}
		if d.Calls() != 0 || d.Loose() != 0 || d.Down() {
			t.Errorf("armed by %d: %d calls, %d loose, down %v", left, d.Calls(), d.Loose(), d.Down())
		}
	}
}

// P4.1: Write: the power goes at each one; those ahead of it are there, if they are kept.
func TestWritePower(t *testing.T) {
	for left := range 5 {
		d := made(t, 4)
		d.Arm(left)
		for k := range 4 {
			want := api.OK
			if k >= left {
				want = api.ErrDown
			}
			if e := Write(d, k, Sector{k + 1, 0, "x"}); e != want || d.Loose() != min(k+1, left) {
				t.Errorf("armed by %d, Write %d: %d, %d loose", left, k, e, d.Loose())
			}
		}
		if left < 4 {
			for s, want := range wrongSectors() {
				if e := Write(d, 0, s); e != want {
					t.Errorf("down: Write of %+v: %d", s, e)
				}
			}
			if e := Write(d, 4, Sector{1, 0, ""}); e != api.ErrArg {
				t.Errorf("down: Write of none: %d", e)
			}
		}
		d.Crash(0, 1, 2, 3)
		for k := range 4 {
			if s, ok, e := Read(d, k); ok != (k < left) || ok && s != (Sector{k + 1, 0, "x"}) || e != api.OK {
				t.Errorf("armed by %d, sector %d: %+v, %v, %d", left, k, s, ok, e)
			}
		}
	}
}

// P4.1: Latest, of all ways in which two sectors may stand.
func TestLatest(t *testing.T) {
	one := Sector{1, 1, "one"}
	like := Sector{1, 2, "like one"}
	two := Sector{2, 0, ""}
	most := Sector{maxStamp, 255, "most"}
	bent := flip(most.Text(), 100, 1)
	for k, x := range []struct {
		a, b string // as they last
		want Sector
		at   int // 2: the first place, 0: the second
	}{
		{"", "", Sector{}, -1},
		{one.Text(), "", one, 2},
		{"", one.Text(), one, 0},
		{one.Text(), two.Text(), two, 0},
		{two.Text(), one.Text(), two, 2},
		{one.Text(), like.Text(), one, 2},
		{like.Text(), one.Text(), like, 2},
		{most.Text(), most.Text(), most, 2},
		{one.Text(), most.Text(), most, 0},
		{most.Text(), two.Text(), most, 2},
		{bent, "", Sector{}, -1},
		{bent, bent, Sector{}, -1},
		{bent, one.Text(), one, 0},
		{one.Text(), bent, one, 2},
		{sealed("\x00\x01\x02\x00"), sealed("\x00\x01\x02\x00"), Sector{}, -1}, // stamps of 0
	} {
		d := made(t, 3)
		d.Spoil(2, x.a)
		d.Spoil(0, x.b)
		if s, at, e := Latest(d, 2, 0); s != x.want || at != x.at || e != api.OK {
			t.Errorf("Latest %d: %+v, %d, %d", k, s, at, e)
		}
		if d.Calls() != 0 {
			t.Errorf("Latest %d: %d calls", k, d.Calls())
		}
	}
}

// P4.1: Latest of one place alone, and of sectors that are loose.
func TestLatestOfOne(t *testing.T) {
	d := made(t, 2)
	if s, at, e := Latest(d, 1, 1); s != (Sector{}) || at != -1 || e != api.OK {
		t.Errorf("of nothing: %+v, %d, %d", s, at, e)
	}
	Write(d, 1, Sector{5, 0, "five"})
	if s, at, e := Latest(d, 1, 1); s != (Sector{5, 0, "five"}) || at != 1 || e != api.OK {
		t.Errorf("of one: %+v, %d, %d", s, at, e)
	}
	d.Flush()
	Write(d, 0, Sector{6, 0, "six"})
	if s, at, e := Latest(d, 0, 1); s != (Sector{6, 0, "six"}) || at != 0 || e != api.OK {
		t.Errorf("a loose one: %+v, %d, %d", s, at, e)
	}
	d.Crash()
	if s, at, e := Latest(d, 0, 1); s != (Sector{5, 0, "five"}) || at != 1 || e != api.OK {
		t.Errorf("behind a crash: %+v, %d, %d", s, at, e)
	}
}

// P4.1: Latest: the device's error of a, then of b; zero, -1 beside it.
func TestLatestErrors(t *testing.T) {
	d := made(t, 2)
	Write(d, 0, Sector{1, 2, "a"})
	Write(d, 1, Sector{2, 2, "b"})
	d.Arm(0)
	for _, down := range []bool{false, true} {
		there := api.OK // of a place that there is
		if down {
			d.Flush()
			there = api.ErrDown
		}
		first := func(l ...api.Errno) api.Errno {
			for _, e := range l {
				if e != api.OK {
					return e
				}
			}
			return api.OK
		}
		for _, x := range []struct {
			a, b int
			want api.Errno
		}{
			{-1, 0, api.ErrArg},
			{2, 0, api.ErrArg},
			{math.MaxInt, math.MinInt, api.ErrArg},
			{0, -1, first(there, api.ErrArg)},
			{1, 2, first(there, api.ErrArg)},
			{0, 1, there},
			{1, 1, there},
		} {
			s, at, e := Latest(d, x.a, x.b)
			if e != x.want || e != api.OK && (s != (Sector{}) || at != -1) || e == api.OK && at != 1 {
				t.Errorf("Latest(%d, %d), down %v: %+v, %d, %d, not %d", x.a, x.b, down, s, at, e, x.want)
			}
		}
	}
}
