package wal

import (
	"math/rand"
	"slices"
	"testing"

	"armoire/api"
	"armoire/device"
)

// life: a log, and what was told of it: how many of its records were forced, of those from the head on.
type life struct {
	d       *device.Device
	l       *Log
	a       Area
	records []Record // from the head on
	forced  int      // so many first ones of them
}

func begun(t *testing.T, d *device.Device, a Area, next int) *life {
	t.Helper()
	return &life{d: d, l: opened(t, d, a, next), a: a}
}

// do: a step: 0 and more: an Append of so many bytes; -1: a Force; -2: a Trim of one record; false: the power is gone.
func (f *life) do(t *testing.T, step int) bool {
	t.Helper()
	switch {
	case step == -1:
		if e := f.l.Force(); e != api.OK {
			return false
		}
		f.forced = len(f.records)
	case step == -2:
		if len(f.records) == 0 {
			return true
		}
		if e := f.l.Trim(f.records[0].Last + 1); e != api.OK {
			t.Fatalf("Trim: %d", e)
		}
		f.records = f.records[1:]
		f.forced = max(0, f.forced-1)
	default:
		r, e := f.l.Append(text(step))
		if e == api.ErrDown {
			return false
		}
		if e == api.OK {
			f.records = append(f.records, r)
		}
	}
	return true
}

// mustBegin: what is found are the records that were forced, and a beginning of the others; it ends behind them.
func (f *life) mustBegin(t *testing.T, got []Record, end int) {
	t.Helper()
	if len(got) < f.forced || len(got) > len(f.records) || !slices.Equal(got, f.records[:len(got)]) {
		t.Fatalf("%+v, of %+v, of which %d were forced", got, f.records, f.forced)
	}
	want := f.l.Head()
	if len(got) > 0 {
		want = got[len(got)-1].Last + 1
	}
	if end != want {
		t.Fatalf("it ends at %d, not %d", end, want)
	}
}

// crashes calls f with a crash of a device for each subset of its loose writes, or for some of them at chance, if there are many.
func crashes(r *rand.Rand, d *device.Device, most int, f func(*device.Device)) {
	n := d.Loose()
	all := 1 << min(n, 30)
	for k := range min(all, most) {
		set := k
		if all > most {
			// Where half of them are lost little is found, so some subsets have fewer gaps.
			set = []int{0, all - 1, r.Intn(all), r.Intn(all) | r.Intn(all) | r.Intn(all)}[min(k, 2+r.Intn(2))]
		}
		var keep []int
		for at := range n {
			if set>>at&1 == 1 {
				keep = append(keep, at)
			}
		}
		c := d.Clone()
		c.Crash(keep...)
		f(c)
	}
}

// plans: steps of some lives.
func plans() [][]int {
	return [][]int{
		{0, 10, 44, 45, -1, 3},
		{100, -1, 3, 0, 5},
		{50, 50, 50, 50},
		{300, -1, -2, 300, -1},
		{1, 2, 3, -1, -2, -2, 200, -2, 4, 90, -1, 5, 6},
		{44, -1, 44, -1, 44, -1, -2, -2, -2, 150, 44, 44},
		{200, -2, 100, -2, 50, -1, 60, -2, 70},
		{-1, 0, -1, 0, -2, -1, 0, 0, 0, -1, -2, -2, 0, 0, 0, 0},
	}
}

// eachCrash: each plan, from each place of an area on, with the power going at each call: f with the life, and a way to its crashes.
func eachCrash(t *testing.T, f func(t *testing.T, f *life, each func(func(*device.Device)))) {
	t.Helper()
	r := rand.New(rand.NewSource(6))
	for _, plan := range plans() {
		for next := 8; next < 16; next++ {
			for left := range 40 {
				g := begun(t, made(t, 12), Area{2, 8}, next)
				g.d.Arm(left)
				lived := true
				for _, step := range plan {
					lived = g.do(t, step)
					if !lived {
						break
					}
				}
				f(t, g, func(one func(*device.Device)) { crashes(r, g.d, 64, one) })
				if t.Failed() {
					t.Fatalf("plan %v, from %d on, %d calls", plan, next, left)
				}
				if lived {
					break
				}
			}
		}
	}
}

// P5.2: PREFIX: behind a crash at each call, with subsets of what is loose.
func TestPrefix(t *testing.T) {
	eachCrash(t, func(t *testing.T, f *life, each func(func(*device.Device))) {
		each(func(c *device.Device) {
			got, end, e := Scan(c, f.a, f.l.Head())
			if e != api.OK {
				t.Fatalf("Scan: %d", e)
			}
			f.mustBegin(t, got, end)
		})
	})
}

// P5.2: all subsets of twelve loose sectors, of records of several: just those are found whose sectors, and those of all ahead, last.
func TestPrefixAllSubsets(t *testing.T) {
	a := Area{1, 15}
	base := made(t, 17)
	l := opened(t, base, a, 10)
	done := add(t, l, "forced", text(45))
	l.Force()
	done = append(done, add(t, l, text(100), "one", text(200), "", text(88))...)
	if base.Loose() != 12 {
		t.Fatalf("%d loose", base.Loose())
	}
	for set := range 1 << 12 {
		var keep []int
		whole, gap := 2, false
		for _, r := range done[2:] {
			for at := r.First; at <= r.Last; at++ {
				number := at - 13 // the first loose one has stamp 13
				if set>>number&1 == 1 {
					keep = append(keep, number)
				} else {
					gap = true
				}
			}
			if !gap {
				whole++
			}
		}
		d := base.Clone()
		d.Crash(keep...)
		end := done[whole-1].Last + 1
		mustScan(t, "a subset", d, a, 10, done[:whole], end)
		if t.Failed() {
			t.Fatalf("subset %012b", set)
		}
	}
}

// P5.3: BEYOND: behind each crash a log that is opened there finds nothing; behind a crash of its own just a beginning of what it appended.
func TestBeyondFindsItsOwn(t *testing.T) {
	r := rand.New(rand.NewSource(7))
	eachCrash(t, func(t *testing.T, f *life, each func(func(*device.Device))) {
		each(func(c *device.Device) {
			_, end, _ := Scan(c, f.a, f.l.Head())
			from := Beyond(f.a, end)
			mustScan(t, "beyond", c, f.a, from, nil, from)
			g := begun(t, c, f.a, from)
			steps := [][]int{{44, 100, -1, 0}, {5, 300}, {0, 0, 0, 0, 0}}[r.Intn(3)]
			for _, step := range steps {
				g.do(t, step)
			}
			crashes(r, c, 4, func(c *device.Device) {
				got, end, e := Scan(c, g.a, from)
				if e != api.OK {
					t.Fatalf("Scan: %d", e)
				}
				g.mustBegin(t, got, end)
			})
		})
	})
}

// P5.3: also where as much as an area takes lasts behind a gap: the greatest stamp there is stands just ahead of Beyond.
func TestBeyondIsFarEnough(t *testing.T) {
	for length := 2; length < 7; length++ {
		d, a := made(t, 10), Area{2, length}
		l := opened(t, d, a, 5)
		for range length {
			add(t, l, "old")
		}
		keep := make([]int, length-1)
		for k := range keep {
			keep[k] = k + 1
		}
		d.Crash(keep...)
		mustScan(t, "a gap ahead", d, a, 5, nil, 5)
		m := opened(t, d, a, Beyond(a, 5))
		mustScan(t, "beyond", d, a, m.Head(), nil, m.Head())
		done := add(t, m, "new")
		mustScan(t, "new", d, a, m.Head(), done, m.Head()+1)
	}
}

// mustResume: a log that is resumed, with the records of a Scan ahead of it.
func mustResume(t *testing.T, d *device.Device, a Area, head int, want []Record, end int) *Log {
	t.Helper()
	l, got, e := Resume(d, a, head)
	if e != api.OK || !slices.Equal(got, want) {
		t.Fatalf("Resume: %+v, %d, not %+v", got, e, want)
	}
	mustBe(t, "Resume", l, head, end, a.Len-end+head)
	return l
}

// P5.4: RESUME: the records of a Scan; broken off at each of its calls, and resumed again, the same; it goes on behind them.
func TestResume(t *testing.T) {
	r := rand.New(rand.NewSource(8))
	eachCrash(t, func(t *testing.T, f *life, each func(func(*device.Device))) {
		head := f.l.Head()
		each(func(c *device.Device) {
			want, end, _ := Scan(c, f.a, head)
			calls := f.a.Len - (end - head) + 1 // that Resume takes
			left := r.Intn(calls)
			broken := c.Clone()
			broken.Arm(left)
			if l, got, e := Resume(broken, f.a, head); l != nil || got != nil || e != api.ErrDown {
				t.Fatalf("%d calls left: %v, %+v, %d", left, l != nil, got, e)
			}
			crashes(r, broken, 3, func(c *device.Device) {
				mustScan(t, "broken off", c, f.a, head, want, end)
				mustResume(t, c, f.a, head, want, end)
				mustResume(t, c, f.a, head, want, end)
			})
			g := &life{d: c, a: f.a, l: mustResume(t, c, f.a, head, want, end), records: want, forced: len(want)}
			for range 4 {
				g.do(t, []int{-1, -2, 0, 5, 50, 100}[r.Intn(6)])
			}
			crashes(r, c, 4, func(c *device.Device) {
				got, end, _ := Scan(c, g.a, g.l.Head())
				g.mustBegin(t, got, end)
			})
		})
	})
}

// P5.4: all subsets of what lasts of a log, and, of what is broken off of its Resume, all subsets again.
func TestResumeAllSubsets(t *testing.T) {
	a := Area{1, 5}
	base := made(t, 7)
	add(t, opened(t, base, a, 9), "one", text(60), "", text(30))
	crashes(nil, base, 1<<5, func(lasts *device.Device) {
		want, end, _ := Scan(lasts, a, 9)
		for left := range 5 - (end - 9) + 1 {
			broken := lasts.Clone()
			broken.Arm(left)
			if _, _, e := Resume(broken, a, 9); e != api.ErrDown || broken.Loose() != left {
				t.Fatalf("%d calls left: %d, %d loose", left, e, broken.Loose())
			}
			crashes(nil, broken, 1<<5, func(c *device.Device) {
				l := mustResume(t, c, a, 9, want, end)
				done := slices.Clone(want)
				if l.Free() > 0 {
					done = append(done, add(t, l, text(44*l.Free()))...)
				}
				mustScan(t, "full again", c, a, 9, done, 14)
			})
		}
	})
}

// P5.4: what lasted behind a gap doesn't come back when the gap is filled.
func TestResumeLeavesNothingBehind(t *testing.T) {
	d, a := made(t, 12), Area{2, 8}
	l := opened(t, d, a, 7)
	add(t, l, "first", "lost", "old", "older")
	d.Crash(0, 2, 3)
	m, got, e := Resume(d, a, 7)
	if e != api.OK || !slices.Equal(got, []Record{{7, 7, "first"}}) {
		t.Fatalf("Resume: %+v, %d", got, e)
	}
	done := append(got, add(t, m, "filled")...)
	mustScan(t, "filled", d, a, 7, done, 9)
	m.Force()
	d.Crash()
	mustScan(t, "forced", d, a, 7, done, 9)
}

// P5.1 to P5.4: long lives, with crashes, resumed or opened beyond, in areas of many lengths.
func TestLongLives(t *testing.T) {
	for seed := range 300 {
		r := rand.New(rand.NewSource(int64(seed)))
		a := Area{r.Intn(4), 2 + r.Intn(12)}
		d := made(t, a.From+a.Len+r.Intn(3))
		f := begun(t, d, a, 1+r.Intn(40))
		for range 200 {
			if r.Intn(12) == 0 {
				d.Arm(r.Intn(6))
			}
			if f.do(t, []int{-1, -2, -2, 0, r.Intn(44), r.Intn(200), r.Intn(44 * a.Len)}[r.Intn(7)]) && r.Intn(15) > 0 {
				mustLive(t, f)
				continue
			}
			f = crashed(t, r, f)
			if t.Failed() {
				t.Fatalf("seed %d", seed)
			}
		}
	}
}

// mustLive: what a life's log says, and what is found of it, loose or not.
func mustLive(t *testing.T, f *life) {
	t.Helper()
	if f.l.Free() != f.a.Len-f.l.Next()+f.l.Head() || f.l.Free() < 0 {
		t.Errorf("head %d, next %d, free %d of %d", f.l.Head(), f.l.Next(), f.l.Free(), f.a.Len)
	}
	mustScan(t, "alive", f.d, f.a, f.l.Head(), f.records, f.l.Next())
}

// crashed: a life's next one, behind a crash.
func crashed(t *testing.T, r *rand.Rand, f *life) *life {
	t.Helper()
	var keep []int
	for k := range f.d.Loose() {
		if r.Intn(4) > 0 {
			keep = append(keep, k)
		}
	}
	f.d.Crash(keep...)
	head := f.l.Head()
	got, end, e := Scan(f.d, f.a, head)
	if e != api.OK {
		t.Fatalf("Scan: %d", e)
	}
	f.mustBegin(t, got, end)
	if r.Intn(2) == 0 {
		return begun(t, f.d, f.a, Beyond(f.a, end))
	}
	return &life{d: f.d, a: f.a, l: mustResume(t, f.d, f.a, head, got, end), records: got, forced: len(got)}
}
