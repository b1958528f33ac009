package pages

import (
	"math/rand"
	"strconv"
	"strings"
	"testing"

	"armoire/api"
	"armoire/device"
)

// mustLast: the pages of the last checkpoint, and its superblock, stand on the device as they were written.
func (m *model) mustLast(t *testing.T, what string, d *device.Device) {
	t.Helper()
	image := d.Image()
	last := m.copy()
	last.undo()
	if image[m.super.Gen%2] != superOf(m.super, last.used()) {
		t.Fatalf("%s: the last checkpoint's superblock was written", what)
	}
	for id, text := range m.kept {
		b := pageOf(text)
		for k := range 4 {
			at := 2 + 4*id + k
			if now, e := d.Read(at); image[at] != b[64*k:64*k+64] || e == api.OK && now != image[at] {
				t.Fatalf("%s: page %d of the last checkpoint was written", what, id)
			}
		}
	}
}

// step does one of a store's calls, at chance, on the store and on the model; false: the power is gone, by a Checkpoint of these numbers.
func step(t *testing.T, r *rand.Rand, s *Store, m *model, count int) (bool, [3]int) {
	t.Helper()
	switch k := r.Intn(20); {
	case k < 8:
		mustPut(t, s, m, strings.Repeat(strconv.Itoa(count)+" ", r.Intn(60)))
	case k < 9:
		mustPut(t, s, m, strings.Repeat("x", 240+r.Intn(20)))
	case k < 15:
		mustGive(t, s, m, r.Intn(m.layout.Pages+2)-1)
	case k < 16:
		s.Undo()
		m.undo()
	default:
		c := [3]int{r.Intn(m.layout.Pages+2) - 1, r.Intn(9), r.Intn(9) - 1}
		if r.Intn(2) == 0 {
			c = [3]int{-1, 1 + r.Intn(maxStamp), r.Intn(maxStamp)}
		}
		want := m.may(c[0], c[1], c[2])
		e := s.Checkpoint(c[0], c[1], c[2])
		if want == api.OK && e == api.ErrDown {
			return false, c
		}
		if e != want {
			t.Fatalf("Checkpoint%v: %d, not %d", c, e, want)
		}
		if want == api.OK {
			*m = *m.done(c[0], c[1], c[2])
		}
	}
	return true, [3]int{}
}

// P7.1: long runs of any calls, all of it held against the model behind each. P7.3: what the last checkpoint has in use stands as it was written.
func TestRuns(t *testing.T) {
	r := rand.New(rand.NewSource(5))
	for _, l := range []Layout{{4, 4}, {5, 4}, {8, 4}, {9, 6}, {20, 5}, {128, 4}} {
		d, s, m := formatted(t, l)
		for n := range 600 {
			calls := d.Calls()
			checkpoints := m.super.Gen
			step(t, r, s, m, n)
			if m.super.Gen == checkpoints && d.Calls() != calls {
				t.Fatalf("%+v, step %d writes", l, n)
			}
			if !m.mustBe(t, "run", s) {
				t.Fatalf("%+v, step %d", l, n)
			}
			m.mustLast(t, "run", d)
			m.mustOpen(t, "run", d.Clone())
		}
	}
}

// plan: a store whose next checkpoint has so many pages to write, of which some are in the place of pages that are gone.
type plan struct {
	layout            Layout
	kept, gone, fresh int
}

func plans() []plan {
	return []plan{
		{Layout{4, 4}, 0, 0, 0},
		{Layout{4, 4}, 0, 0, 1},
		{Layout{4, 4}, 2, 0, 1},
		{Layout{4, 4}, 2, 2, 2},
		{Layout{8, 4}, 3, 1, 3},
		{Layout{9, 4}, 4, 4, 2},
		{Layout{6, 5}, 6, 3, 0},
	}
}

// laid: the store of a plan; it is at its third checkpoint, and pages that were given back at the second one are taken again.
func (p plan) laid(t *testing.T) (*device.Device, *Store, *model) {
	t.Helper()
	d, s, m := formatted(t, p.layout)
	for range p.layout.Pages {
		mustPut(t, s, m, strings.Repeat("old", 80))
	}
	mustCheckpoint(t, s, m, 0, 5, 5)
	for id := range p.layout.Pages {
		mustGive(t, s, m, id)
	}
	mustCheckpoint(t, s, m, -1, 6, 6)
	for id := range p.kept {
		mustPut(t, s, m, "kept "+strings.Repeat(strconv.Itoa(id), 200))
	}
	mustCheckpoint(t, s, m, p.kept-1, 7, 7)
	for id := range p.gone {
		mustGive(t, s, m, id)
	}
	for id := range p.fresh {
		mustPut(t, s, m, "fresh "+strings.Repeat(strconv.Itoa(id), 220))
	}
	return d, s, m
}

// P7.1: Checkpoint: its writes and flushes, one behind the other, with the power going at each; what is loose then, and what lasts.
func TestCalls(t *testing.T) {
	for _, p := range plans() {
		_, _, m := p.laid(t)
		calls := m.calls(-1, 8, 9)
		if want := 4*p.fresh + 3; len(calls) != want {
			t.Fatalf("%+v: %d calls", p, len(calls))
		}
		for left := range len(calls) + 1 {
			d, s, m := p.laid(t)
			want := d.Clone()
			loose := 0
			for _, c := range calls[:left] {
				loose++
				if c.at < 0 {
					want.Flush()
					loose = 0
				} else {
					want.Write(c.at, c.text)
				}
			}
			d.Arm(left)
			e := s.Checkpoint(-1, 8, 9)
			if (e == api.OK) != (left == len(calls)) || e != api.OK && e != api.ErrDown {
				t.Errorf("%+v, %d calls: %d", p, left, e)
			}
			if d.Loose() != loose {
				t.Errorf("%+v, %d calls: %d loose", p, left, d.Loose())
			}
			// All loose writes kept one by one tell which ones they are, in which order.
			for k := range loose + 1 {
				a, b := d.Clone(), want.Clone()
				a.Crash(k)
				b.Crash(k)
				if strings.Join(a.Image(), "") != strings.Join(b.Image(), "") {
					t.Fatalf("%+v, %d calls: loose write %d is another one", p, left, k)
				}
			}
			m.mustLast(t, "broken off", d)
		}
	}
}

// crashes calls f with a crash of a device for each subset of its loose writes, or for some of them at chance, if there are many.
func crashes(r *rand.Rand, d *device.Device, most int, f func(*device.Device)) {
	n := d.Loose()
	all := 1 << min(n, 30)
	for k := range min(all, most) {
		set := k
		if all > most {
			set = []int{0, all - 1, r.Intn(all)}[min(k, 2)]
		}
		var keep []int
		for at := range n {
			if set>>at&1 == 1 {
				keep = append(keep, at)
			}
		}
		c := d.Clone()
		c.Crash(keep...)
		f(c)
	}
}

// mustFind: P7.2: of a device behind a crash Open finds the last checkpoint, or, just if its superblock lasts, the one that was broken off.
func mustFind(t *testing.T, what string, d *device.Device, m *model, c [3]int) (*Store, *model) {
	t.Helper()
	next := m.done(c[0], c[1], c[2])
	if d.Image()[next.super.Gen%2] == superOf(next.super, m.used()) {
		return next.mustOpen(t, what+", the one that was broken off", d), next
	}
	last := m.copy()
	last.undo()
	return last.mustOpen(t, what+", the last one", d), last
}

// P7.2: SHADOW: a crash at each call of a checkpoint, with subsets of what is loose; and a checkpoint more behind it.
func TestShadow(t *testing.T) {
	r := rand.New(rand.NewSource(7))
	for _, p := range plans() {
		for left := range 4*p.fresh + 3 {
			d, s, m := p.laid(t)
			c := [3]int{-1, 8, 9}
			if p.fresh > 0 {
				c[0] = p.kept // the first page that is fresh
			}
			d.Arm(left)
			if e := s.Checkpoint(c[0], c[1], c[2]); e != api.ErrDown {
				t.Fatalf("%+v, %d calls: %d", p, left, e)
			}
			found := map[int]bool{}
			crashes(r, d, 4096, func(b *device.Device) {
				o, n := mustFind(t, "crash", b, m, c)
				found[n.super.Gen] = true
				for range 2 {
					mustPut(t, o, n, "behind")
				}
				mustGive(t, o, n, 0, 1)
				mustCheckpoint(t, o, n, -1, 10, 10)
				n.mustBe(t, "behind a crash", o)
				n.mustOpen(t, "behind a crash", b)
			})
			// The superblock is loose at the last call alone.
			if last := left == 4*p.fresh+2; !found[4] || found[5] != last {
				t.Errorf("%+v, %d calls: %v", p, left, found)
			}
		}
	}
}

// P7.2: a crash with no checkpoint under way: nothing of what was put since the last one is there.
func TestCrashBetween(t *testing.T) {
	for _, p := range plans() {
		d, _, m := p.laid(t)
		d.Crash()
		m.mustOpen(t, "crash", d)
	}
}

// P7.2, P7.3: lives one behind the other: any calls, the power going at any of them, any subset of what is loose, opened anew.
func TestLives(t *testing.T) {
	r := rand.New(rand.NewSource(8))
	for _, l := range []Layout{{4, 4}, {7, 4}, {12, 4}} {
		d, s, m := formatted(t, l)
		broken, anew := 0, 0
		for life := range 400 {
			d.Arm(r.Intn(80))
			for n := 0; ; n++ {
				gen := m.super.Gen
				ok, c := step(t, r, s, m, life*100+n)
				m.mustLast(t, "life", d)
				if ok && n < 200 {
					continue
				}
				if ok { // the life ends by itself, between two checkpoints
					d.Crash()
					s = m.mustOpen(t, "crash", d)
					m.undo()
					break
				}
				broken++
				keep := []int{}
				for k := range d.Loose() {
					if r.Intn(2) == 0 {
						keep = append(keep, k)
					}
				}
				d.Crash(keep...)
				s, m = mustFind(t, "crash", d, m, c)
				if m.super.Gen > gen {
					anew++
				}
				break
			}
		}
		if broken < 200 || anew < 5 || anew > broken-50 {
			t.Errorf("%+v: %d broken off, %d of them found", l, broken, anew)
		}
	}
}

// P7.3: what a checkpoint has in use isn't even written again as it is: other bytes laid there stay, and so do all sectors of no page.
func TestNotWritten(t *testing.T) {
	for _, p := range plans() {
		d, s, m := p.laid(t)
		spoiled := map[int]bool{}
		for at := range d.Len() {
			spoiled[at] = true
		}
		for _, id := range m.dirty() {
			for k := range 4 {
				delete(spoiled, 2+4*id+k)
			}
		}
		delete(spoiled, (m.super.Gen+1)%2)
		for at := range spoiled {
			d.Spoil(at, "laid "+strconv.Itoa(at))
		}
		if e := s.Checkpoint(-1, 8, 9); e != api.OK {
			t.Fatalf("%+v: %d", p, e)
		}
		for at, text := range d.Image() {
			if laid := "laid " + strconv.Itoa(at) + strings.Repeat("\x00", 64); spoiled[at] != (text == laid[:64]) {
				t.Errorf("%+v: sector %d: %q", p, at, text)
			}
		}
	}
}

// P7.3: pages that were given back are written behind the next checkpoint, not ahead of it.
func TestGone(t *testing.T) {
	d, s, m := formatted(t, Layout{4, 4})
	mustPut(t, s, m, "a", "b", "c", "d")
	mustCheckpoint(t, s, m, 0, 1, 1)
	for id := range 4 {
		mustGive(t, s, m, id)
		mustPut(t, s, m, "no place")
		m.mustBe(t, "gone", s)
	}
	mustCheckpoint(t, s, m, -1, 1, 1)
	m.mustLast(t, "gone", d)
	mustPut(t, s, m, "e", "f", "g", "h", "no place")
	mustCheckpoint(t, s, m, 3, 1, 1)
	m.mustBe(t, "taken again", s)
	m.mustOpen(t, "taken again", d)
}

// P7.1: Undo: all is as the last checkpoint left it, behind any calls; what is put then takes the same pages.
func TestUndo(t *testing.T) {
	d, s, m := plans()[4].laid(t)
	before := d.Calls()
	s.Undo()
	m.undo()
	m.mustBe(t, "Undo", s)
	s.Undo()
	m.mustBe(t, "Undo", s)
	mustPut(t, s, m, "anew")
	m.mustBe(t, "put behind Undo", s)
	if d.Calls() != before {
		t.Error("Undo writes")
	}
	mustCheckpoint(t, s, m, 3, 8, 8)
	s.Undo()
	m.mustBe(t, "Undo behind a checkpoint", s)
	m.mustOpen(t, "Undo behind a checkpoint", d)
}
