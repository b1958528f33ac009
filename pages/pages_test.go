package pages

import (
	"encoding/binary"
	"fmt"
	"hash/crc32"
	"maps"
	"math"
	"slices"
	"strings"
	"testing"

	"armoire/api"
	"armoire/device"
	"armoire/space"
	"armoire/wal"
)

const maxStamp = 1 << 40

// number: as layer 2 spells it.
func number(n int) string {
	digits := ""
	for ; n > 0; n /= 256 {
		digits = string([]byte{byte(n)}) + digits
	}
	return string([]byte{byte(len(digits))}) + digits
}

// summed: bytes with their sum ahead, and bytes 0 behind, up to a size.
func summed(size int, behind string) string {
	behind += strings.Repeat("\x00", size-4-len(behind))
	return string(binary.LittleEndian.AppendUint32(nil, crc32.ChecksumIEEE([]byte(behind)))) + behind
}

// pageOf: the 256 bytes of a page with a text.
func pageOf(text string) string {
	return summed(256, number(len(text))+text)
}

// stampedOf: a sector with a stamp, a mark, data.
func stampedOf(stamp, mark int, data string) string {
	return summed(64, number(stamp)+number(mark)+number(len(data))+data)
}

// dataOf: of a superblock.
func dataOf(root, log, next int, used string) string {
	return number(root+1) + number(log) + number(next) + number(len(used)) + used
}

// superOf: a superblock's 64 bytes.
func superOf(u Super, used string) string {
	return stampedOf(u.Gen, 0, dataOf(u.Root, u.Log, u.Next, used))
}

// made: a device, all of whose sectors are bytes that say nothing: what is left alone is seen to be.
func made(t *testing.T, n int) *device.Device {
	t.Helper()
	d, e := device.New(n)
	if e != api.OK {
		t.Fatalf("New(%d): %d", n, e)
	}
	for at := range n {
		d.Spoil(at, other(at))
	}
	return d
}

// other: what stands in a sector that nobody wrote.
func other(at int) string {
	return strings.Repeat(string([]byte{byte('A' + at%26)}), 64)
}

func powerless(d *device.Device) *device.Device {
	c := d.Clone()
	c.Arm(0)
	c.Flush()
	return c
}

// seen: all that can be asked of a device without a change.
type seen struct {
	loose, calls   int
	down           bool
	image, sectors string
}

func look(d *device.Device) seen {
	var b strings.Builder
	for at := range d.Len() {
		text, e := d.Read(at)
		b.WriteString(text + string(rune('a'+e)))
	}
	return seen{d.Loose(), d.Calls(), d.Down(), strings.Join(d.Image(), "|"), b.String()}
}

// model: what a store should be: the pages' texts at the last checkpoint, and those that a checkpoint would have now.
type model struct {
	layout    Layout
	super     Super
	kept, now map[int]string
}

// formatted: a new device, its store, and what this should be.
func formatted(t *testing.T, l Layout) (*device.Device, *Store, *model) {
	t.Helper()
	d := made(t, l.Total()+3)
	s, e := Format(d, l)
	if s == nil || e != api.OK {
		t.Fatalf("Format(%+v): %d", l, e)
	}
	m := &model{layout: l, super: Super{1, -1, 1, 1}, kept: map[int]string{}, now: map[int]string{}}
	if !m.mustBe(t, "Format", s) {
		t.FailNow()
	}
	return d, s, m
}

func (m *model) copy() *model {
	return &model{m.layout, m.super, maps.Clone(m.kept), maps.Clone(m.now)}
}

func (m *model) state(id int) int {
	_, kept := m.kept[id]
	_, now := m.now[id]
	switch {
	case id < 0 || id >= m.layout.Pages:
		return -1
	case kept && now:
		return space.Used
	case now:
		return space.Fresh
	case kept:
		return space.Gone
	}
	return space.Free
}

func (m *model) read(id int) (string, api.Errno) {
	if text, ok := m.now[id]; ok {
		return text, api.OK
	}
	if text, ok := m.kept[id]; ok {
		return text, api.OK
	}
	return "", api.ErrNone
}

func (m *model) put(text string) (int, api.Errno) {
	if len(text) > 248 {
		return 0, api.ErrBig
	}
	for id := range m.layout.Pages {
		if m.state(id) == space.Free {
			m.now[id] = text
			return id, api.OK
		}
	}
	return 0, api.ErrFull
}

func (m *model) give(id int) api.Errno {
	if _, ok := m.now[id]; !ok {
		return api.ErrNone
	}
	delete(m.now, id)
	return api.OK
}

func (m *model) undo() { m.now = maps.Clone(m.kept) }

func (m *model) dirty() []int {
	var l []int
	for id := range m.layout.Pages {
		if m.state(id) == space.Fresh {
			l = append(l, id)
		}
	}
	return l
}

func (m *model) used() string {
	b := make([]byte, (m.layout.Pages+7)/8)
	for id := range m.now {
		b[id/8] |= 1 << (id % 8)
	}
	return string(b)
}

// may: the error ahead of all writing of a checkpoint.
func (m *model) may(root, log, next int) api.Errno {
	if _, ok := m.now[root]; !ok && root != -1 {
		return api.ErrNone
	}
	if log < 1 || log > maxStamp || next < 0 || next > maxStamp {
		return api.ErrStamp
	}
	return api.OK
}

// done: the model behind a checkpoint.
func (m *model) done(root, log, next int) *model {
	c := m.copy()
	c.kept = maps.Clone(c.now)
	c.super = Super{m.super.Gen + 1, root, log, next}
	return c
}

// call: a write of a sector, or a flush (below 0).
type call struct {
	at   int
	text string
}

// calls: those of a checkpoint of the model, one behind the other.
func (m *model) calls(root, log, next int) []call {
	var l []call
	for _, id := range m.dirty() {
		b := pageOf(m.now[id])
		for k := range 4 {
			l = append(l, call{2 + 4*id + k, b[64*k : 64*k+64]})
		}
	}
	u := m.done(root, log, next).super
	return append(l, call{at: -1}, call{u.Gen % 2, superOf(u, m.used())}, call{at: -1})
}

// mustBe: all that can be asked of a store is as the model says; true: it is.
func (m *model) mustBe(t *testing.T, what string, s *Store) bool {
	t.Helper()
	if s.Super() != m.super || s.Layout() != m.layout || s.Len() != m.layout.Pages || s.Text() != m.used() || !slices.Equal(s.Dirty(), m.dirty()) {
		t.Errorf("%s: %+v, %+v, %d, %x, %v, not %+v, %+v, %x, %v", what, s.Super(), s.Layout(), s.Len(), s.Text(), s.Dirty(), m.super, m.layout, m.used(), m.dirty())
	}
	counts := make([]int, 4)
	for id := -2; id < m.layout.Pages+2; id++ {
		if s.State(id) != m.state(id) {
			t.Errorf("%s: page %d is %d, not %d", what, id, s.State(id), m.state(id))
		}
		text, e := s.Read(id)
		if want, f := m.read(id); text != want || e != f {
			t.Errorf("%s: page %d: %q, %d, not %q, %d", what, id, text, e, want, f)
		}
		if id >= 0 && id < m.layout.Pages {
			counts[m.state(id)]++
		}
	}
	for state, n := range counts {
		if s.Count(state) != n {
			t.Errorf("%s: Count(%d): %d, not %d", what, state, s.Count(state), n)
		}
	}
	return !t.Failed()
}

// mustOpen: a device is opened to just what the model's last checkpoint left; opening writes nothing.
func (m *model) mustOpen(t *testing.T, what string, d *device.Device) *Store {
	t.Helper()
	loose, calls := d.Loose(), d.Calls()
	s, e := Open(d, m.layout)
	if s == nil || e != api.OK {
		t.Fatalf("%s: Open: %d", what, e)
	}
	if d.Loose() != loose || d.Calls() != calls || s.Device() != d {
		t.Fatalf("%s: Open writes, or has another device", what)
	}
	c := m.copy()
	c.undo()
	if !c.mustBe(t, what, s) {
		t.FailNow()
	}
	return s
}

func mustPut(t *testing.T, s *Store, m *model, texts ...string) {
	t.Helper()
	for _, text := range texts {
		id, e := s.Put(text)
		if want, f := m.put(text); id != want || e != f {
			t.Fatalf("Put of %d bytes: %d, %d, not %d, %d", len(text), id, e, want, f)
		}
	}
}

func mustGive(t *testing.T, s *Store, m *model, ids ...int) {
	t.Helper()
	for _, id := range ids {
		if e, want := s.Give(id), m.give(id); e != want {
			t.Fatalf("Give(%d): %d, not %d", id, e, want)
		}
	}
}

// mustCheckpoint: it is answered as the model says, which is behind it then.
func mustCheckpoint(t *testing.T, s *Store, m *model, root, log, next int) {
	t.Helper()
	want := m.may(root, log, next)
	if e := s.Checkpoint(root, log, next); e != want {
		t.Fatalf("Checkpoint(%d, %d, %d): %d, not %d", root, log, next, e, want)
	}
	if want == api.OK {
		*m = *m.done(root, log, next)
	}
}

func TestNumbers(t *testing.T) {
	if Sectors != 4 || Size != 256 || Room != 248 {
		t.Error(Sectors, Size, Room)
	}
}

func goodLayouts() []Layout {
	return []Layout{{4, 4}, {4, 4096}, {128, 4}, {128, 4096}, {5, 9}, {64, 100}}
}

func wrongLayouts() []Layout {
	var l []Layout
	for _, n := range []int{3, 0, -1, -4, 129, 4097, math.MinInt, math.MaxInt, 1 << 32, 1<<32 + 4, 1<<62 + 4} {
		l = append(l, Layout{n, 4}, Layout{n, 100}, Layout{n, n})
		if n > 128 || n < 4 {
			l = append(l, Layout{n, 3})
		}
	}
	for _, n := range []int{3, 0, -1, -4, 4097, math.MinInt, math.MaxInt, 1 << 32, 1<<32 + 4} {
		l = append(l, Layout{4, n}, Layout{128, n}, Layout{50, n})
	}
	return append(l, Layout{})
}

// P7.1: Check: the edges of both numbers, and all layouts about the smaller ones.
func TestCheck(t *testing.T) {
	for _, l := range goodLayouts() {
		if e := l.Check(); e != api.OK {
			t.Errorf("%+v: %d", l, e)
		}
	}
	for _, l := range wrongLayouts() {
		if e := l.Check(); e != api.ErrArg {
			t.Errorf("%+v: %d", l, e)
		}
	}
	for p := -5; p < 135; p++ {
		for n := -5; n < 10; n++ {
			want := api.ErrArg
			if p >= 4 && p <= 128 && n >= 4 {
				want = api.OK
			}
			if e := (Layout{p, n}).Check(); e != want {
				t.Errorf("%d, %d: %d", p, n, e)
			}
		}
	}
}

// P7.1: Total, Area: two superblocks, four sectors a page, the log's.
func TestTotal(t *testing.T) {
	for l, total := range map[Layout]int{{4, 4}: 22, {4, 4096}: 4114, {128, 4}: 518, {128, 4096}: 4610, {5, 9}: 31, {64, 100}: 358} {
		if l.Total() != total || l.Area() != (wal.Area{From: total - l.Log, Len: l.Log}) {
			t.Errorf("%+v: %d, %+v", l, l.Total(), l.Area())
		}
		if d := made(t, total); l.Area().Check(d) != api.OK {
			t.Errorf("%+v: %+v may not be", l, l.Area())
		}
	}
	for _, l := range wrongLayouts() {
		l.Total()
		l.Area()
	}
}

// P7.1: Format and Open: a layout that may not be, a device that is too small, with power and without.
func TestWrongLayout(t *testing.T) {
	try := func(d *device.Device, l Layout) {
		ahead := look(d)
		if s, e := Format(d, l); s != nil || e != api.ErrArg {
			t.Errorf("Format(%+v): %v, %d", l, s, e)
		}
		if s, e := Open(d, l); s != nil || e != api.ErrArg {
			t.Errorf("Open(%+v): %v, %d", l, s, e)
		}
		if look(d) != ahead {
			t.Errorf("%+v: something is changed", l)
		}
	}
	full, _, _ := formatted(t, Layout{4, 4})
	for _, d := range []*device.Device{full, powerless(full), made(t, 1), made(t, 5000)} {
		for _, l := range wrongLayouts() {
			try(d, l)
		}
	}
	for _, l := range goodLayouts() {
		for _, n := range []int{1, 2, l.Total() - 1} {
			d := made(t, n)
			d.Spoil(0, "")
			d.Spoil(1, superOf(Super{1, -1, 1, 1}, strings.Repeat("\x00", (l.Pages+7)/8)))
			try(d, l)
			try(powerless(d), l)
		}
	}
}

// P7.1: Format: a flush, superblock 1, a flush, and nothing else; on a device of just as many sectors, too.
func TestFormat(t *testing.T) {
	for _, l := range goodLayouts() {
		for _, more := range []int{0, 1, 70} {
			d := made(t, l.Total()+more)
			d.Write(l.Total()-1, "loose")
			s, e := Format(d, l)
			if s == nil || e != api.OK {
				t.Fatalf("%+v: %d", l, e)
			}
			if d.Calls() != 4 || d.Loose() != 0 || s.Device() != d {
				t.Errorf("%+v: %d calls, %d loose", l, d.Calls(), d.Loose())
			}
			u := Super{1, -1, 1, 1}
			want := made(t, l.Total()+more)
			want.Spoil(l.Total()-1, "loose")
			want.Spoil(1, superOf(u, strings.Repeat("\x00", (l.Pages+7)/8)))
			if !slices.Equal(d.Image(), want.Image()) {
				t.Errorf("%+v: other sectors", l)
			}
			m := &model{l, u, map[int]string{}, map[int]string{}}
			m.mustBe(t, "Format", s)
			m.mustOpen(t, "Format", d)
		}
	}
}

// P7.1, P7.2: Format without power, and with the power going at each of its calls.
func TestFormatDown(t *testing.T) {
	l := Layout{4, 4}
	for left := range 3 {
		d := made(t, l.Total())
		d.Arm(left)
		if s, e := Format(d, l); s != nil || e != api.ErrDown {
			t.Errorf("%d calls: %v, %d", left, s, e)
		}
		if d.Calls() != left || !d.Down() {
			t.Errorf("%d calls: %d", left, d.Calls())
		}
		if s, e := Format(d, l); s != nil || e != api.ErrDown {
			t.Errorf("without power: %v, %d", s, e)
		}
		if s, e := Open(d, l); s != nil || e != api.ErrDown {
			t.Errorf("Open without power: %v, %d", s, e)
		}
		lost := d.Clone()
		lost.Crash()
		if s, e := Open(lost, l); s != nil || e != api.ErrBad {
			t.Errorf("%d calls: Open: %v, %d", left, s, e)
		}
		d.Crash(0)
		s, e := Open(d, l)
		if left < 2 && (s != nil || e != api.ErrBad) {
			t.Errorf("%d calls: Open: %v, %d", left, s, e)
		}
		if left == 2 && (e != api.OK || s.Super() != Super{1, -1, 1, 1}) {
			t.Errorf("%d calls: Open: %d", left, e)
		}
	}
}

// The chapter's example.
func TestExample(t *testing.T) {
	d, s, _ := formatted(t, Layout{4, 4})
	if id, e := s.Put("a"); id != 0 || e != api.OK {
		t.Fatalf("Put: %d, %d", id, e)
	}
	if e := s.Checkpoint(0, 1, 1); e != api.OK {
		t.Fatalf("Checkpoint: %d", e)
	}
	o, e := Open(d, Layout{4, 4})
	if e != api.OK {
		t.Fatalf("Open: %d", e)
	}
	if text, e := o.Read(0); text != "a" || e != api.OK {
		t.Errorf("Read: %q, %d", text, e)
	}
}

// P7.1: the bytes of a page and of a superblock, by hand.
func TestBytes(t *testing.T) {
	d, s, m := formatted(t, Layout{10, 4})
	mustPut(t, s, m, "", "ab", "c")
	mustGive(t, s, m, 0)
	mustCheckpoint(t, s, m, 2, 300, 0)
	behind := "\x01\x02ab" + strings.Repeat("\x00", 248)
	page := string(binary.LittleEndian.AppendUint32(nil, crc32.ChecksumIEEE([]byte(behind)))) + behind
	if got := strings.Join(d.Image()[6:10], ""); got != page {
		t.Errorf("page 1: %x", got)
	}
	behind = "\x01\x02" + "\x00" + "\x01\x0a" + "\x01\x03" + "\x02\x01\x2c" + "\x00" + "\x01\x02\x06\x00"
	behind += strings.Repeat("\x00", 60-len(behind))
	super := string(binary.LittleEndian.AppendUint32(nil, crc32.ChecksumIEEE([]byte(behind)))) + behind
	if got := d.Image()[0]; got != super {
		t.Errorf("superblock 2: %x, not %x", got, super)
	}
}

// P7.1: Put: texts of each length, there and back, also over a checkpoint; those that are too long.
func TestTexts(t *testing.T) {
	for n := 0; n <= 248; n++ {
		for _, fill := range []string{"\x00", "\xff", "x"} {
			d, s, m := formatted(t, Layout{4, 4})
			mustPut(t, s, m, strings.Repeat(fill, n))
			m.mustBe(t, "put", s)
			mustCheckpoint(t, s, m, 0, 1, 1)
			m.mustBe(t, "kept", s)
			m.mustOpen(t, "opened", d)
			if got := strings.Join(d.Image()[2:6], ""); got != pageOf(strings.Repeat(fill, n)) {
				t.Errorf("%d bytes: %x", n, got)
			}
		}
	}
	d, s, m := formatted(t, Layout{4, 4})
	for range 2 {
		for _, n := range []int{249, 250, 255, 256, 257, 504, 1000, 1 << 16} {
			ahead := look(d)
			if id, e := s.Put(strings.Repeat("x", n)); id != 0 || e != api.ErrBig {
				t.Errorf("Put of %d bytes: %d, %d", n, id, e)
			}
			if look(d) != ahead {
				t.Error("Put writes")
			}
		}
		m.mustBe(t, "behind what is too big", s)
		// The second time there is no page left: what is too big is told first.
		mustPut(t, s, m, "a", "b", "c", "d")
	}
	if id, e := s.Put("e"); id != 0 || e != api.ErrFull {
		t.Errorf("Put: %d, %d", id, e)
	}
	m.mustBe(t, "full", s)
}

// P7.1: Put, Give, Undo, Read of what was put, Dirty ask nothing of the device, also without power.
func TestWithoutDevice(t *testing.T) {
	d, s, m := formatted(t, Layout{6, 4})
	mustPut(t, s, m, "a", "b")
	mustCheckpoint(t, s, m, 1, 1, 1)
	d.Arm(0)
	d.Flush()
	ahead := look(d)
	mustPut(t, s, m, "c", "d")
	mustGive(t, s, m, 0, 2, 0, 5, -1)
	if text, e := s.Read(3); text != "d" || e != api.OK {
		t.Errorf("what was put: %q, %d", text, e)
	}
	for id, want := range map[int]api.Errno{0: api.ErrDown, 1: api.ErrDown, 2: api.ErrNone, 4: api.ErrNone, -1: api.ErrNone, 6: api.ErrNone} {
		if text, e := s.Read(id); text != "" || e != want {
			t.Errorf("page %d: %q, %d, not %d", id, text, e, want)
		}
	}
	if !slices.Equal(s.Dirty(), []int{3}) || s.State(0) != space.Gone {
		t.Errorf("%v, %d", s.Dirty(), s.State(0))
	}
	if e := s.Checkpoint(0, 1, 1); e != api.ErrNone {
		t.Errorf("Checkpoint: %d", e)
	}
	if e := s.Checkpoint(1, 0, 1); e != api.ErrStamp {
		t.Errorf("Checkpoint: %d", e)
	}
	s.Undo()
	m.undo()
	if s.Text() != "\x03" || len(s.Dirty()) != 0 {
		t.Errorf("Undo: %x, %v", s.Text(), s.Dirty())
	}
	if e := s.Checkpoint(1, 1, 1); e != api.ErrDown {
		t.Errorf("Checkpoint: %d", e)
	}
	if look(d) != ahead {
		t.Error("the device is changed")
	}
}

// P7.1: Read: ErrNone, ErrDown and ErrBad in that order; a page that was put is told whatever the device has.
func TestReadOrder(t *testing.T) {
	d, s, m := formatted(t, Layout{4, 4})
	mustPut(t, s, m, "a")
	mustCheckpoint(t, s, m, 0, 1, 1)
	mustPut(t, s, m, "b")
	for at := range 4 * 4 {
		d.Spoil(2+at, "bent")
	}
	for id, want := range map[int]api.Errno{0: api.ErrBad, 1: api.OK, 2: api.ErrNone, 3: api.ErrNone, 4: api.ErrNone, -1: api.ErrNone, math.MinInt: api.ErrNone, math.MaxInt: api.ErrNone} {
		if _, e := s.Read(id); e != want {
			t.Errorf("page %d: %d, not %d", id, e, want)
		}
	}
	s.Give(0)
	if text, e := s.Read(0); text != "" || e != api.ErrBad {
		t.Errorf("a page that is gone: %q, %d", text, e)
	}
	d.Arm(0)
	d.Flush()
	if text, e := s.Read(0); text != "" || e != api.ErrDown {
		t.Errorf("without power: %q, %d", text, e)
	}
}

// P7.1: Checkpoint: its errors in their order, with nothing changed.
func TestCheckpointErrors(t *testing.T) {
	d, s, m := formatted(t, Layout{5, 4})
	mustPut(t, s, m, "a", "b", "c")
	mustCheckpoint(t, s, m, 0, 7, 7)
	mustGive(t, s, m, 1)
	mustPut(t, s, m, "d")
	far := []int{math.MinInt, math.MaxInt, math.MinInt + 1, math.MaxInt - 1}
	ahead := look(d)
	for _, root := range append([]int{-2, -3, 1, 4, 5, 6, 128}, far...) {
		for _, log := range []int{1, 0, maxStamp + 1} {
			for _, next := range []int{0, -1} {
				if e := s.Checkpoint(root, log, next); e != api.ErrNone {
					t.Errorf("root %d: %d", root, e)
				}
			}
		}
	}
	for _, root := range []int{-1, 0, 2, 3} {
		for _, wrong := range append([]int{-1, maxStamp + 1, -maxStamp}, far...) {
			if e := s.Checkpoint(root, wrong, 1); e != api.ErrStamp {
				t.Errorf("log %d: %d", wrong, e)
			}
			if e := s.Checkpoint(root, 1, wrong); e != api.ErrStamp {
				t.Errorf("next %d: %d", wrong, e)
			}
		}
		if e := s.Checkpoint(root, 0, 1); e != api.ErrStamp {
			t.Errorf("log 0: %d", e)
		}
	}
	if look(d) != ahead {
		t.Error("the device is changed")
	}
	m.mustBe(t, "behind what is refused", s)
	// The edges that may be.
	for _, c := range [][3]int{{-1, 1, 0}, {0, maxStamp, maxStamp}, {2, 1, maxStamp}, {3, maxStamp, 0}} {
		mustCheckpoint(t, s, m, c[0], c[1], c[2])
		m.mustBe(t, "Checkpoint", s)
		m.mustOpen(t, "Checkpoint", d)
	}
}

// P7.1: a store of 128 pages, all in use, with the greatest numbers: its superblock has room.
func TestGreatest(t *testing.T) {
	d, s, m := formatted(t, Layout{128, 4096})
	for k := range 128 {
		mustPut(t, s, m, strings.Repeat(fmt.Sprintf("%d ", k), 60))
	}
	if _, e := s.Put("z"); e != api.ErrFull {
		t.Errorf("Put: %d", e)
	}
	mustCheckpoint(t, s, m, 127, maxStamp, maxStamp)
	m.mustBe(t, "Checkpoint", s)
	m.mustOpen(t, "Open", d)
	if d.Calls() != 3+4*128+3 {
		t.Errorf("%d calls", d.Calls())
	}
}

// P7.1: the calls of the space are the store's own; Give and Undo are the store's.
func TestEmbedded(t *testing.T) {
	_, s, m := formatted(t, Layout{9, 4})
	mustPut(t, s, m, "a", "b")
	if s.Space.Len() != 9 || s.Len() != 9 || s.State(1) != space.Fresh || s.Count(space.Fresh) != 2 || s.Text() != "\x03\x00" {
		t.Errorf("%d, %d, %d, %x", s.Len(), s.State(1), s.Count(space.Fresh), s.Text())
	}
	mustGive(t, s, m, 0)
	if !slices.Equal(s.Dirty(), []int{1}) || s.Space.State(0) != space.Free {
		t.Errorf("%v, %d", s.Dirty(), s.Space.State(0))
	}
	s.Undo()
	if len(s.Dirty()) != 0 || s.Space.Count(space.Free) != 9 {
		t.Errorf("%v", s.Dirty())
	}
}

// K3: what Dirty answers is the caller's.
func TestDirtyApart(t *testing.T) {
	_, s, m := formatted(t, Layout{9, 4})
	if l := s.Dirty(); len(l) != 0 {
		t.Errorf("%v", l)
	}
	mustPut(t, s, m, "a", "b", "c")
	l := s.Dirty()
	l[0], l[1] = 7, 8
	l = append(l[:0], 9, 9, 9)
	if !slices.Equal(s.Dirty(), []int{0, 1, 2}) || !slices.Equal(l, []int{9, 9, 9}) {
		t.Errorf("%v", s.Dirty())
	}
	m.mustBe(t, "Dirty", s)
}

// P7.1: two stores on devices of their own go their own ways; so do two that were opened on clones.
func TestApart(t *testing.T) {
	d, s, m := formatted(t, Layout{4, 4})
	mustPut(t, s, m, "a")
	mustCheckpoint(t, s, m, 0, 1, 1)
	c := d.Clone()
	o, n := m.mustOpen(t, "clone", c), m.copy()
	mustPut(t, o, n, "x", "y")
	mustGive(t, o, n, 0)
	m.mustBe(t, "the other one changes", s)
	mustCheckpoint(t, o, n, 1, 5, 5)
	m.mustBe(t, "the other one is kept", s)
	n.mustBe(t, "the other one", o)
	m.mustOpen(t, "the first one's device", d)
}
