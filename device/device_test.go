package device

import (
	"math"
	"math/rand"
	"slices"
	"strings"
	"testing"

	"armoire/api"
)

// full: a text as a sector has it.
func full(text string) string {
	return text + strings.Repeat("\x00", 64-len(text))
}

func made(t *testing.T, n int) *Device {
	t.Helper()
	d, e := New(n)
	if e != api.OK || d == nil {
		t.Fatalf("New(%d): %d", n, e)
	}
	return d
}

// written: a device of so many sectors, with these writes loose, each of a sector's number and a letter of its own.
func written(t *testing.T, n int, places ...int) *Device {
	t.Helper()
	d := made(t, n)
	for k, at := range places {
		if e := d.Write(at, letter(k)); e != api.OK {
			t.Fatalf("Write %d: %d", k, e)
		}
	}
	return d
}

func letter(k int) string {
	return string([]byte{byte('a' + k)})
}

// seen: all that can be asked of a device without a change.
type seen struct {
	size, loose, calls int
	down               bool
	image              string
	sectors            string
}

func look(d *Device) seen {
	s := seen{size: d.Len(), loose: d.Loose(), calls: d.Calls(), down: d.Down(), image: strings.Join(d.Image(), "|")}
	for at := range d.Len() {
		text, e := d.Read(at)
		s.sectors += text + letter(int(e))
	}
	return s
}

// mustHave: the sectors, as they are read.
func mustHave(t *testing.T, what string, d *Device, want ...string) {
	t.Helper()
	for at, text := range want {
		if s, e := d.Read(at); s != full(text) || e != api.OK {
			t.Errorf("%s: sector %d: %q, %d, not %q", what, at, s, e, text)
		}
	}
}

// mustLast: the sectors, as they last.
func mustLast(t *testing.T, what string, d *Device, want ...string) {
	t.Helper()
	l := d.Image()
	if len(l) != len(want) {
		t.Fatalf("%s: %d sectors last, not %d", what, len(l), len(want))
	}
	for at, text := range want {
		if l[at] != full(text) {
			t.Errorf("%s: sector %d lasts as %q, not %q", what, at, l[at], text)
		}
	}
}

func TestSize(t *testing.T) {
	if Size != 64 {
		t.Errorf("Size: %d", Size)
	}
}

// P3.1: New's edges, and what a new one has.
func TestNew(t *testing.T) {
	for _, n := range []int{math.MinInt, -1, 0, 1<<16 + 1, math.MaxInt} {
		if d, e := New(n); d != nil || e != api.ErrArg {
			t.Errorf("New(%d): %v, %d", n, d != nil, e)
		}
	}
	for _, n := range []int{1, 2, 3, 1<<16 - 1, 1 << 16} {
		d := made(t, n)
		if d.Len() != n || d.Loose() != 0 || d.Down() || d.Calls() != 0 {
			t.Errorf("New(%d): %d sectors, %d loose, down %v, %d calls", n, d.Len(), d.Loose(), d.Down(), d.Calls())
		}
		for at, s := range d.Image() {
			if s != full("") {
				t.Fatalf("New(%d): sector %d lasts as %q", n, at, s)
			}
		}
		mustHave(t, "New", d, "")
		if s, e := d.Read(n - 1); s != full("") || e != api.OK {
			t.Errorf("the last sector of %d: %q, %d", n, s, e)
		}
		if e := d.Write(n-1, "z"); e != api.OK {
			t.Errorf("Write of the last sector of %d: %d", n, e)
		}
	}
}

// P3.1: without Arm there are as many calls as one likes.
func TestNewIsNotArmed(t *testing.T) {
	d := made(t, 1)
	for k := range 1000 {
		if d.Write(0, "a") != api.OK || d.Flush() != api.OK || d.Calls() != 2*k+2 {
			t.Fatalf("behind %d calls", d.Calls())
		}
	}
}

// P3.1: Read's errors, in their order; it changes nothing, and is no call.
func TestReadErrors(t *testing.T) {
	d := written(t, 2, 0)
	for _, down := range []bool{false, true} {
		if down {
			d.Arm(0)
			d.Flush()
		}
		ahead := look(d)
		for _, at := range []int{math.MinInt, -1, 2, 3, math.MaxInt} {
			if s, e := d.Read(at); s != "" || e != api.ErrArg {
				t.Errorf("Read(%d), down %v: %q, %d", at, down, s, e)
			}
		}
		for at := range 2 {
			s, e := d.Read(at)
			if down && (s != "" || e != api.ErrDown) || !down && e != api.OK {
				t.Errorf("Read(%d), down %v: %q, %d", at, down, s, e)
			}
		}
		if look(d) != ahead {
			t.Errorf("a Read changes something, down %v", down)
		}
	}
}

// P3.1: Read tells the last loose write of that sector, or what lasts.
func TestReadLastLoose(t *testing.T) {
	d := made(t, 3)
	d.Write(0, "a")
	d.Flush()
	mustHave(t, "flushed", d, "a", "", "")
	d.Write(0, "b")
	d.Write(1, "c")
	d.Write(0, "d")
	d.Write(2, "e")
	mustHave(t, "loose", d, "d", "c", "e")
	d.Write(0, "")
	mustHave(t, "emptied", d, "", "c", "e")
	mustLast(t, "loose", d, "a", "", "")
}

// P3.1: Write: every length that may be, with bytes 0 behind.
func TestWriteLengths(t *testing.T) {
	d := made(t, 2)
	for size := range 65 {
		text := strings.Repeat("\xff", size)
		if e := d.Write(1, text); e != api.OK || d.Loose() != size+1 || d.Calls() != size+1 {
			t.Fatalf("Write of %d bytes: %d, %d loose, %d calls", size, e, d.Loose(), d.Calls())
		}
		mustHave(t, "Write", d, "", text)
	}
	for _, text := range []string{"\x00", "é€", "\x00a\x00", strings.Repeat("\x00", 64)} {
		d.Write(0, text)
		mustHave(t, "Write", d, text)
	}
	mustLast(t, "Write", d, "", "")
}

// P3.1: Write's ErrArg, with and without power: nothing changes, nothing is counted, and the power doesn't go by it.
func TestWriteErrArg(t *testing.T) {
	d := written(t, 2, 0, 1)
	wrong := func(what string) {
		t.Helper()
		ahead := look(d)
		for _, at := range []int{math.MinInt, -1, 2, math.MaxInt} {
			for _, text := range []string{"", "x", strings.Repeat("x", 65)} {
				if e := d.Write(at, text); e != api.ErrArg {
					t.Errorf("%s: Write(%d) of %d bytes: %d", what, at, len(text), e)
				}
			}
		}
		for _, size := range []int{65, 66, 1000} {
			if e := d.Write(0, strings.Repeat("x", size)); e != api.ErrArg {
				t.Errorf("%s: Write of %d bytes: %d", what, size, e)
			}
		}
		if look(d) != ahead {
			t.Errorf("%s: a Write that is refused changes something", what)
		}
	}
	wrong("with power")
	d.Arm(1)
	wrong("armed by 1")
	if e := d.Write(0, "x"); e != api.OK {
		t.Errorf("the one call: %d", e)
	}
	wrong("armed by 0")
	if e := d.Write(0, "y"); e != api.ErrDown {
		t.Errorf("no call is left: %d", e)
	}
	wrong("down")
}

// P3.1: the power goes at each call of some, be that a write or a flush: those ahead of it are done, that one and all behind it aren't.
func TestPowerGoesAtEachCall(t *testing.T) {
	const plan = "wwfwfwwwfffw" // Writes and Flushes
	for left := range len(plan) + 2 {
		d := made(t, 3)
		model := made(t, 3) // what is done ahead of that, of one whose power stays
		d.Arm(left)
		for k, c := range plan {
			call := func(d *Device) api.Errno {
				if c == 'w' {
					return d.Write(k%3, letter(k))
				}
				return d.Flush()
			}
			if d.Down() != (k > left) {
				t.Fatalf("armed by %d, ahead of call %d: down %v", left, k, d.Down())
			}
			e := call(d)
			if k < left {
				call(model)
			}
			if want := map[bool]api.Errno{true: api.OK, false: api.ErrDown}[k < left]; e != want {
				t.Fatalf("armed by %d, call %d: %d", left, k, e)
			}
			if d.Loose() != model.Loose() || d.Calls() != model.Calls() || !slices.Equal(d.Image(), model.Image()) {
				t.Fatalf("armed by %d, behind call %d: %d loose, %d calls, %q", left, k, d.Loose(), d.Calls(), d.Image())
			}
			if _, e := d.Read(0); (e == api.ErrDown) != (k >= left) {
				t.Fatalf("armed by %d, behind call %d: Read: %d", left, k, e)
			}
		}
	}
}

// P3.1: Arm(0) doesn't take the power, the next call does; Reads aren't counted.
func TestArmNought(t *testing.T) {
	d := written(t, 1, 0)
	d.Arm(0)
	for range 3 {
		if d.Down() {
			t.Error("down ahead of the next call")
		}
		mustHave(t, "Arm(0)", d, "a")
	}
	if e := d.Flush(); e != api.ErrDown || !d.Down() || d.Loose() != 1 || d.Calls() != 1 {
		t.Errorf("Flush: %d, down %v, %d loose, %d calls", e, d.Down(), d.Loose(), d.Calls())
	}
	mustLast(t, "Arm(0)", d, "")
}

// P3.1: the last Arm holds; below 0 there are as many calls as one likes.
func TestArmAgain(t *testing.T) {
	for _, n := range []int{-1, -2, math.MinInt, math.MaxInt, 1 << 20} {
		d := made(t, 1)
		d.Arm(1)
		d.Write(0, "a")
		d.Arm(n)
		for k := range 100 {
			if d.Write(0, "b") != api.OK || d.Down() {
				t.Fatalf("Arm(%d): call %d finds no power", n, k)
			}
		}
	}
	d := made(t, 1)
	d.Arm(-1)
	d.Arm(5)
	d.Arm(1)
	if d.Flush() != api.OK || d.Flush() != api.ErrDown {
		t.Error("Arm(1) behind others")
	}
}

// P3.1: only a Crash brings the power back: Arm doesn't, and what it said is gone then.
func TestArmWhileDown(t *testing.T) {
	for _, n := range []int{-1, 0, 1, 5} {
		d := written(t, 1, 0)
		d.Arm(0)
		d.Flush()
		d.Arm(n)
		if !d.Down() || d.Flush() != api.ErrDown || d.Write(0, "b") != api.ErrDown || d.Loose() != 1 || d.Calls() != 1 {
			t.Errorf("Arm(%d) while down: down %v, %d loose, %d calls", n, d.Down(), d.Loose(), d.Calls())
		}
		d.Crash(0)
		mustHave(t, "Crash", d, "a")
		for k := range 20 {
			if d.Down() || d.Flush() != api.OK || d.Calls() != k+2 {
				t.Fatalf("Arm(%d) while down, Crash, call %d", n, k)
			}
		}
	}
}

// P3.1, P3.2: Flush: in their order, all of them; of none it is a call, too.
func TestFlush(t *testing.T) {
	d := written(t, 3, 0, 1, 0, 2, 1, 0)
	if e := d.Flush(); e != api.OK || d.Loose() != 0 || d.Calls() != 7 {
		t.Errorf("Flush: %d, %d loose, %d calls", e, d.Loose(), d.Calls())
	}
	mustLast(t, "Flush", d, "f", "e", "d")
	mustHave(t, "Flush", d, "f", "e", "d")
	if e := d.Flush(); e != api.OK || d.Calls() != 8 {
		t.Errorf("Flush of none: %d, %d calls", e, d.Calls())
	}
	d.Crash()
	mustLast(t, "Crash behind Flush", d, "f", "e", "d")
}

// P3.2: all subsets of loose writes over what was flushed, chosen in other orders, twice, and beside numbers of none: those last, in the writes' order, each sector whole.
func TestCrashSubsets(t *testing.T) {
	places := []int{0, 1, 0, 2, 1, 0, 2}
	for set := range 1 << len(places) {
		want := []string{"x", "y", "z"}
		var rising []int
		for k, at := range places {
			if set>>k&1 == 1 {
				rising = append(rising, k)
				want[at] = strings.Repeat(letter(k), k+1)
			}
		}
		falling := slices.Clone(rising)
		slices.Reverse(falling)
		strange := slices.Concat([]int{-1, len(places), math.MinInt}, falling, []int{math.MaxInt, -2}, rising)
		for _, keep := range [][]int{rising, falling, strange} {
			d := made(t, 3)
			for at, text := range []string{"xlong", "x", "y", "z"} {
				d.Write(max(0, at-1), text)
			}
			d.Flush()
			for k, at := range places {
				d.Write(at, strings.Repeat(letter(k), k+1))
			}
			list := slices.Clone(keep)
			d.Crash(list...)
			if !slices.Equal(list, keep) || d.Loose() != 0 || d.Down() {
				t.Fatalf("Crash(%v): %d loose, down %v, list %v", keep, d.Loose(), d.Down(), list)
			}
			mustLast(t, "Crash", d, want...)
			mustHave(t, "Crash", d, want...)
		}
	}
}

// P3.1: behind a Crash the numbers begin at 0 again, as they do behind a Flush.
func TestLooseNumbers(t *testing.T) {
	d := written(t, 2, 0, 0, 0)
	d.Flush()
	d.Write(1, "x")
	d.Write(1, "y")
	d.Crash(0)
	mustLast(t, "behind a Flush", d, "c", "x")
	d.Write(0, "z")
	d.Crash(0)
	mustLast(t, "behind a Crash", d, "z", "x")
	d.Crash(0, 1, 2)
	mustLast(t, "of none", d, "z", "x")
}

// P3.1: Crash: with power or without, none, nil, and how many calls there were.
func TestCrash(t *testing.T) {
	for _, down := range []bool{false, true} {
		for _, keep := range [][]int{nil, {}, {-1}, {2}} {
			d := written(t, 2, 0, 1)
			d.Arm(3)
			if down {
				d.Arm(0)
				d.Flush()
			}
			d.Crash(keep...)
			if d.Down() || d.Loose() != 0 || d.Calls() != 2 || d.Len() != 2 {
				t.Errorf("Crash(%v): down %v, %d loose, %d calls", keep, d.Down(), d.Loose(), d.Calls())
			}
			mustHave(t, "Crash", d, "", "")
			for k := range 10 {
				if e := d.Flush(); e != api.OK {
					t.Errorf("Crash(%v), call %d: %d", keep, k, e)
				}
			}
		}
	}
}

// P3.1: Spoil: cut, or with bytes 0 behind; with power and without; it is no call.
func TestSpoil(t *testing.T) {
	for _, down := range []bool{false, true} {
		d := written(t, 3, 0)
		d.Flush()
		d.Arm(1)
		if down {
			d.Arm(0)
			d.Flush()
		}
		for _, size := range []int{0, 1, 63, 64} {
			d.Spoil(1, strings.Repeat("s", size))
			mustLast(t, "Spoil", d, "a", strings.Repeat("s", size), "")
		}
		d.Spoil(1, strings.Repeat("t", 64)+"uvw")
		mustLast(t, "Spoil, cut", d, "a", strings.Repeat("t", 64), "")
		ahead := look(d)
		for _, at := range []int{math.MinInt, -1, 3, math.MaxInt} {
			d.Spoil(at, "none")
		}
		if look(d) != ahead || d.Down() != down || d.Calls() != 2 || d.Loose() != 0 {
			t.Errorf("Spoil: down %v, %d calls, %d loose", d.Down(), d.Calls(), d.Loose())
		}
		if !down && (d.Flush() != api.OK || d.Flush() != api.ErrDown) {
			t.Error("Spoil is counted as a call")
		}
	}
}

// P3.1: a loose write stands above what is spoilt.
func TestSpoilBelowLoose(t *testing.T) {
	d := written(t, 2, 0, 1)
	d.Spoil(0, "s")
	mustHave(t, "Spoil", d, "a", "b")
	mustLast(t, "Spoil", d, "s", "")
	c := d.Clone()
	c.Flush()
	mustLast(t, "Flush", c, "a", "b")
	d.Crash(1)
	mustLast(t, "Crash", d, "s", "b")
}

// P3.1, K3: Image: without power, too; it shares nothing.
func TestImage(t *testing.T) {
	d := written(t, 2, 0)
	d.Flush()
	d.Arm(0)
	d.Write(1, "x")
	one := d.Image()
	one[0], one[1] = "changed", "changed"
	mustLast(t, "Image", d, "a", "")
	d.Crash()
	two := d.Image()
	d.Spoil(0, "s")
	d.Write(1, "y")
	d.Flush()
	if two[0] != full("a") || two[1] != full("") {
		t.Errorf("an Image goes on with its device: %q", two)
	}
}

// untilDown: how many more calls find power, up to 10.
func untilDown(d *Device) int {
	for k := range 10 {
		if d.Write(0, "until") != api.OK {
			return k
		}
	}
	return 10
}

// P3.1: Clone: the same, with power and without, and with as many calls left.
func TestClone(t *testing.T) {
	for left := -1; left < 4; left++ {
		for done := range 6 {
			d := written(t, 3, 0, 1)
			d.Flush()
			d.Write(0, "x")
			d.Write(2, "y")
			d.Arm(left)
			for range done {
				d.Write(1, "z")
			}
			if look(d.Clone()) != look(d) {
				t.Fatalf("armed by %d, %d calls: %+v, not %+v", left, done, look(d.Clone()), look(d))
			}
			a, b := d.Clone(), d.Clone()
			a.Crash(0)
			b.Crash(1)
			mustLast(t, "Crash(0) of a Clone", a, "x", "b", "")
			mustLast(t, "Crash(1) of a Clone", b, "a", "b", "y")
			want := max(0, left-done)
			if left < 0 {
				want = 10
			}
			if n := untilDown(d.Clone()); n != want {
				t.Errorf("armed by %d, %d calls: a Clone does %d more, not %d", left, done, n, want)
			}
			if n := untilDown(d.Clone().Clone()); n != want {
				t.Errorf("armed by %d, %d calls: a Clone's Clone does %d more, not %d", left, done, n, want)
			}
			if n := untilDown(d); n != want {
				t.Errorf("armed by %d, %d calls: cloned, it does %d more, not %d", left, done, n, want)
			}
		}
	}
}

// P3.1, K3: a Clone and its device go their own ways, whatever is asked of either.
func TestCloneGoesItsOwnWay(t *testing.T) {
	for name, change := range map[string]func(*Device){
		"Write":       func(d *Device) { d.Write(1, "x") },
		"two Writes":  func(d *Device) { d.Write(1, "x"); d.Write(0, "y") },
		"Flush":       func(d *Device) { d.Flush() },
		"Crash":       func(d *Device) { d.Crash() },
		"Crash(0, 1)": func(d *Device) { d.Crash(0, 1) },
		"Spoil":       func(d *Device) { d.Spoil(2, "s") },
		"Arm":         func(d *Device) { d.Arm(0); d.Flush() },
		"Flush, Write": func(d *Device) {
			d.Flush()
			d.Write(0, "x")
			d.Write(0, "y")
			d.Write(0, "z")
		},
	} {
		d := written(t, 3, 0, 1, 0)
		c := d.Clone()
		ahead := look(d)
		change(c)
		if look(d) != ahead {
			t.Errorf("%s of a Clone changes its device", name)
		}
		behind := look(c)
		change(d)
		d.Write(2, "more")
		d.Flush()
		if look(c) != behind {
			t.Errorf("%s of a device changes its Clone", name)
		}
	}
	d := written(t, 2, 0, 0, 0) // both put a write behind the same ones
	c := d.Clone()
	d.Write(1, "x")
	c.Write(1, "y")
	mustHave(t, "the device", d, "c", "x")
	mustHave(t, "the Clone", c, "c", "y")
	d.Arm(1)
	c.Flush()
	if d.Flush() != api.OK || d.Flush() != api.ErrDown || c.Flush() != api.OK {
		t.Error("a Clone's calls are counted for its device")
	}
}

// plain is what the chapter says, kept otherwise: the whole history of loose writes for each sector.
type plain struct {
	lasts []string
	at    []int
	texts []string
	down  bool
	left  int // below 0: as many as one likes
	calls int
}

func (p *plain) call() bool {
	if p.down || p.left == 0 {
		p.down = true
		return false
	}
	p.left--
	p.calls++
	return true
}

func (p *plain) read(at int) string {
	s := p.lasts[at]
	for k := range p.at {
		if p.at[k] == at {
			s = p.texts[k]
		}
	}
	return s
}

func (p *plain) settle(keep func(int) bool) {
	for k := range p.at {
		if keep(k) {
			p.lasts[p.at[k]] = p.texts[k]
		}
	}
	p.at, p.texts = nil, nil
}

// step does one chance call of both, and tells whether they answered alike.
func step(r *rand.Rand, d *Device, p *plain) bool {
	text := strings.Repeat(letter(r.Intn(26)), r.Intn(67))
	at := r.Intn(len(p.lasts)+2) - 1
	there := at >= 0 && at < len(p.lasts)
	want := api.OK
	switch k := r.Intn(20); {
	case k < 10:
		if !there || len(text) > 64 {
			want = api.ErrArg
		} else if !p.call() {
			want = api.ErrDown
		} else {
			p.at, p.texts = append(p.at, at), append(p.texts, full(text))
		}
		return d.Write(at, text) == want
	case k < 13:
		if !p.call() {
			want = api.ErrDown
		} else {
			p.settle(func(int) bool { return true })
		}
		return d.Flush() == want
	case k < 15:
		var keep []int
		for range r.Intn(6) {
			keep = append(keep, r.Intn(len(p.at)+3)-1)
		}
		p.settle(func(k int) bool { return slices.Contains(keep, k) })
		p.down, p.left = false, -1
		d.Crash(keep...)
	case k < 17:
		p.left = r.Intn(12) - 2
		d.Arm(p.left)
	case there:
		p.lasts[at] = full(text[:min(64, len(text))])
		d.Spoil(at, text)
	}
	return true
}

// P3.1, P3.2: long runs of chance calls, held against a plain model behind each.
func TestAgainstModel(t *testing.T) {
	for seed := range 200 {
		r := rand.New(rand.NewSource(int64(seed)))
		d := made(t, 1+r.Intn(5))
		p := &plain{lasts: slices.Repeat([]string{full("")}, d.Len()), left: -1}
		for k := range 300 {
			if !step(r, d, p) {
				t.Fatalf("seed %d, call %d: another answer", seed, k)
			}
			if d.Down() != p.down || d.Calls() != p.calls || d.Loose() != len(p.at) || !slices.Equal(d.Image(), p.lasts) {
				t.Fatalf("seed %d, behind call %d: down %v, %d calls, %d loose", seed, k, d.Down(), d.Calls(), d.Loose())
			}
			for at := range d.Len() {
				s, e := d.Read(at)
				if p.down && (s != "" || e != api.ErrDown) || !p.down && (s != p.read(at) || e != api.OK) {
					t.Fatalf("seed %d, behind call %d: sector %d: %q, %d", seed, k, at, s, e)
				}
			}
			if r.Intn(10) == 0 {
				d = d.Clone()
			}
		}
	}
}

// P3.1: a device of many loose writes answers, too.
func TestManyLoose(t *testing.T) {
	d := made(t, 1<<16)
	for at := range d.Len() {
		d.Write(at, "a")
	}
	keep := make([]int, 0, d.Len()/2)
	for k := 1; k < d.Len(); k += 2 {
		keep = append(keep, k)
	}
	d.Crash(keep...)
	for at, s := range d.Image() {
		if want := []string{"", "a"}[at%2]; s != full(want) {
			t.Fatalf("sector %d: %q", at, s)
		}
	}
}

// P1: a device that New didn't make has no sectors, and answers.
func TestZeroDevice(t *testing.T) {
	var d Device
	if d.Len() != 0 || d.Down() || len(d.Image()) != 0 || d.Write(0, "") != api.ErrArg || d.Flush() != api.OK {
		t.Error("the zero Device")
	}
	d.Spoil(0, "s")
	d.Crash(0)
	if _, e := d.Clone().Read(0); e != api.ErrArg {
		t.Errorf("Read: %d", e)
	}
}
