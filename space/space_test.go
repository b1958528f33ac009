package space

import (
	"math"
	"math/rand"
	"slices"
	"strings"
	"testing"

	"armoire/api"
)

// pair: of each page, was it in use at the last Keep, and is it now? That is all that a space's calls say, told otherwise.
type pair struct{ kept, now []bool }

func plain(n int) *pair {
	return &pair{make([]bool, n), make([]bool, n)}
}

func (p *pair) state(id int) int {
	switch {
	case id < 0 || id >= len(p.now):
		return -1
	case p.kept[id] && p.now[id]:
		return 1
	case p.now[id]:
		return 2
	case p.kept[id]:
		return 3
	}
	return 0
}

func (p *pair) take() (int, api.Errno) {
	for id := range p.now {
		if !p.kept[id] && !p.now[id] {
			p.now[id] = true
			return id, api.OK
		}
	}
	return 0, api.ErrFull
}

func (p *pair) give(id int) api.Errno {
	if id < 0 || id >= len(p.now) || !p.now[id] {
		return api.ErrNone
	}
	p.now[id] = false
	return api.OK
}

func (p *pair) keep() { p.kept = slices.Clone(p.now) }

func (p *pair) undo() { p.now = slices.Clone(p.kept) }

// text: the pages as digits, the last one first, and these eight by eight as numbers.
func (p *pair) text() string {
	b := []byte{}
	for from := 0; from < len(p.now); from += 8 {
		n := 0
		for id := min(from+8, len(p.now)) - 1; id >= from; id-- {
			n *= 2
			if p.now[id] {
				n++
			}
		}
		b = append(b, byte(n))
	}
	return string(b)
}

func made(t *testing.T, n int) *Space {
	t.Helper()
	s, e := New(n)
	if s == nil || e != api.OK {
		t.Fatalf("New(%d): %d", n, e)
	}
	return s
}

// mustBe: all that can be asked of a space is as a pair says; true: it is.
func mustBe(t *testing.T, what string, s *Space, p *pair) bool {
	t.Helper()
	if s.Len() != len(p.now) || s.Text() != p.text() {
		t.Errorf("%s: Len %d, Text %x, not %d, %x", what, s.Len(), s.Text(), len(p.now), p.text())
	}
	counts := map[int]int{}
	for id := -2; id < len(p.now)+2; id++ {
		if s.State(id) != p.state(id) {
			t.Errorf("%s: page %d is %d, not %d", what, id, s.State(id), p.state(id))
		}
		counts[p.state(id)]++
	}
	for state := range 4 {
		if s.Count(state) != counts[state] {
			t.Errorf("%s: Count(%d) is %d, not %d", what, state, s.Count(state), counts[state])
		}
	}
	return !t.Failed()
}

func TestNumbers(t *testing.T) {
	if Most != 128 || Free != 0 || Used != 1 || Fresh != 2 || Gone != 3 {
		t.Error(Most, Free, Used, Fresh, Gone)
	}
}

// P6.1: New: each number of pages, and those that may not be.
func TestNew(t *testing.T) {
	for n := -200; n < 400; n++ {
		s, e := New(n)
		if n < 1 || n > 128 {
			if s != nil || e != api.ErrArg {
				t.Errorf("New(%d): %v, %d", n, s, e)
			}
			continue
		}
		mustBe(t, "New", made(t, n), plain(n))
	}
	for _, n := range []int{math.MinInt, math.MaxInt, math.MinInt + 1, 1 << 32, 1<<32 + 5, -1 << 32} {
		if s, e := New(n); s != nil || e != api.ErrArg {
			t.Errorf("New(%d): %v, %d", n, s, e)
		}
	}
}

// wrongPages: numbers of no page of a space of n.
func wrongPages(n int) []int {
	return []int{-1, -2, -n, n, n + 1, 128, 129, 256, -256, math.MinInt, math.MaxInt, 1 << 32, -1 << 32}
}

// P6.1: State, Count, Give of what there is not.
func TestNoPage(t *testing.T) {
	for _, n := range []int{1, 2, 8, 127, 128} {
		s, p := made(t, n), plain(n)
		for _, id := range wrongPages(n) {
			if s.State(id) != -1 || s.Give(id) != api.ErrNone {
				t.Errorf("page %d of %d: %d, %d", id, n, s.State(id), s.Give(id))
			}
		}
		for _, state := range []int{-1, 4, 5, -2, math.MinInt, math.MaxInt} {
			if s.Count(state) != 0 {
				t.Errorf("Count(%d): %d", state, s.Count(state))
			}
		}
		mustBe(t, "behind what is refused", s, p)
	}
}

// laid: a space whose pages are in these states, and the pair that says so.
func laid(t *testing.T, states []int) (*Space, *pair) {
	t.Helper()
	s, p := made(t, len(states)), plain(len(states))
	for range states {
		s.Take()
	}
	for id, state := range states {
		if state == Free || state == Fresh {
			s.Give(id)
		}
		p.kept[id] = state == Used || state == Gone
	}
	s.Keep()
	// Those that are to be Fresh are taken with the ones that are Free, which are given back.
	for range s.Count(Free) {
		s.Take()
	}
	for id, state := range states {
		if state == Free || state == Gone {
			s.Give(id)
		}
		p.now[id] = state == Used || state == Fresh
	}
	if !mustBe(t, "laid", s, p) {
		t.FailNow()
	}
	return s, p
}

// P6.1: each call, on all the ways in which up to five pages may stand.
func TestCalls(t *testing.T) {
	for n := 1; n <= 5; n++ {
		for number := range 1 << (2 * n) {
			states := make([]int, n)
			for id := range states {
				states[id] = number >> (2 * id) & 3
			}
			for id := -1; id <= n; id++ {
				s, p := laid(t, states)
				if e, want := s.Give(id), p.give(id); e != want {
					t.Errorf("%v: Give(%d): %d, not %d", states, id, e, want)
				}
				mustBe(t, "Give", s, p)
			}
			s, p := laid(t, states)
			id, e := s.Take()
			if want, f := p.take(); id != want || e != f {
				t.Errorf("%v: Take: %d, %d, not %d, %d", states, id, e, want, f)
			}
			mustBe(t, "Take", s, p)
			s, p = laid(t, states)
			s.Keep()
			p.keep()
			mustBe(t, "Keep", s, p)
			s, p = laid(t, states)
			s.Undo()
			p.undo()
			if !mustBe(t, "Undo", s, p) {
				t.Fatalf("%v", states)
			}
		}
	}
}

// P6.1: long runs of any calls. P6.2: what was in use at the last Keep isn't taken.
func TestRuns(t *testing.T) {
	r := rand.New(rand.NewSource(1))
	for _, n := range []int{1, 2, 7, 8, 9, 10, 16, 17, 64, 127, 128} {
		s, p := made(t, n), plain(n)
		for step := range 3000 {
			kept := slices.Clone(p.kept)
			switch k := r.Intn(40); {
			case k < 18:
				id, e := s.Take()
				if want, f := p.take(); id != want || e != f {
					t.Fatalf("%d pages, step %d: Take: %d, %d, not %d, %d", n, step, id, e, want, f)
				}
				if e == api.OK && kept[id] {
					t.Fatalf("%d pages, step %d: page %d was in use at the last Keep", n, step, id)
				}
			case k < 37:
				id := r.Intn(n+4) - 2
				if e, want := s.Give(id), p.give(id); e != want {
					t.Fatalf("%d pages, step %d: Give(%d): %d, not %d", n, step, id, e, want)
				}
			case k < 39:
				s.Keep()
				p.keep()
			default:
				s.Undo()
				p.undo()
			}
			if !mustBe(t, "run", s, p) {
				t.Fatalf("%d pages, step %d", n, step)
			}
		}
	}
}

// P6.2: of a full space not one page is taken that was given back, until a Keep; behind an Undo all are in use again.
func TestKept(t *testing.T) {
	for _, n := range []int{1, 5, 128} {
		s := made(t, n)
		for id := range n {
			if got, e := s.Take(); got != id || e != api.OK {
				t.Errorf("Take: %d, %d", got, e)
			}
		}
		for range 2 {
			if id, e := s.Take(); id != 0 || e != api.ErrFull {
				t.Errorf("Take: %d, %d", id, e)
			}
		}
		s.Keep()
		for id := range n {
			if s.Give(id) != api.OK || s.State(id) != Gone || s.Give(id) != api.ErrNone {
				t.Errorf("Give(%d)", id)
			}
			if got, e := s.Take(); got != 0 || e != api.ErrFull {
				t.Errorf("Take: %d, %d", got, e)
			}
		}
		s.Undo()
		if s.Count(Used) != n {
			t.Errorf("%d are in use behind an Undo", s.Count(Used))
		}
		s.Give(n - 1)
		s.Keep()
		if id, e := s.Take(); id != n-1 || e != api.OK {
			t.Errorf("Take: %d, %d", id, e)
		}
	}
}

// The chapter's example.
func TestExample(t *testing.T) {
	s := made(t, 4)
	a, _ := s.Take()
	b, _ := s.Take()
	s.Give(0)
	if c, _ := s.Take(); a != 0 || b != 1 || c != 0 {
		t.Error(a, b, c)
	}
}

// P6.1: Text: which bit is which page's, by hand.
func TestText(t *testing.T) {
	s := made(t, 20)
	for range 20 {
		s.Take()
	}
	if s.Text() != "\xff\xff\x0f" {
		t.Errorf("%x", s.Text())
	}
	for id := range 20 {
		if id != 0 && id != 10 && id != 19 {
			s.Give(id)
		}
	}
	if s.Text() != "\x01\x04\x08" {
		t.Errorf("%x", s.Text())
	}
	s.Keep()
	s.Give(10)
	s.Take()
	if s.Text() != "\x03\x00\x08" {
		t.Errorf("%x", s.Text())
	}
}

// mustParse: a text's bits are the pages that are Used, the others are Free.
func mustParse(t *testing.T, n int, text string) *Space {
	t.Helper()
	s, e := Parse(n, text)
	if s == nil || e != api.OK {
		t.Fatalf("Parse(%d, %x): %d", n, text, e)
	}
	p := plain(n)
	for id := range n {
		p.now[id] = text[id/8]&(1<<(id%8)) != 0
	}
	p.keep()
	if !mustBe(t, "Parse", s, p) || s.Text() != text {
		t.Fatalf("Parse(%d, %x): %x", n, text, s.Text())
	}
	return s
}

func mustNotParse(t *testing.T, n int, text string, want api.Errno) {
	t.Helper()
	if s, e := Parse(n, text); s != nil || e != want {
		t.Errorf("Parse(%d, %x): %v, %d, not %d", n, text, s, e, want)
	}
}

// P6.1: Parse: all texts of one and two bytes, for each number of pages that they may be of, and those beside it.
func TestParse(t *testing.T) {
	for n := 1; n <= 18; n++ {
		for number := range 1 << 16 {
			text := string([]byte{byte(number), byte(number >> 8)})
			switch {
			case n > 8 && n <= 16 && number>>n == 0:
				mustParse(t, n, text)
			default:
				mustNotParse(t, n, text, api.ErrForm)
			}
			if number > 255 {
				continue
			}
			if n <= 8 && number>>n == 0 {
				mustParse(t, n, text[:1])
			} else {
				mustNotParse(t, n, text[:1], api.ErrForm)
			}
		}
	}
}

// P6.1: Parse: of each number of pages: none, all, each one, and each bit of none.
func TestParseEach(t *testing.T) {
	for n := 1; n <= 128; n++ {
		size := 1
		for 8*size < n {
			size++
		}
		none := strings.Repeat("\x00", size)
		mustParse(t, n, none)
		for bit := range 8 * size {
			b := []byte(none)
			b[bit/8] |= 1 << (bit % 8)
			if bit < n {
				mustParse(t, n, string(b))
			} else {
				mustNotParse(t, n, string(b), api.ErrForm)
			}
		}
		all := made(t, n)
		for range n {
			all.Take()
		}
		mustParse(t, n, all.Text())
		for _, text := range []string{"", none[1:], none + "\x00", none + none, all.Text() + "\x00", strings.Repeat("\xff", size+1), strings.Repeat("\x00", 1000)} {
			mustNotParse(t, n, text, api.ErrForm)
		}
	}
}

// P6.1: Parse: New's error goes ahead of the text's.
func TestParseOrder(t *testing.T) {
	for _, n := range []int{0, -1, -8, 129, 136, math.MinInt, math.MaxInt, math.MaxInt - 7} {
		for _, text := range []string{"", "\x00", strings.Repeat("\x00", 17), strings.Repeat("\xff", 17), "\xff"} {
			mustNotParse(t, n, text, api.ErrArg)
		}
	}
}

// K3: spaces of one text go their own ways; so does a text that was told.
func TestApart(t *testing.T) {
	a, b := mustParse(t, 9, "\x05\x00"), mustParse(t, 9, "\x05\x00")
	text := a.Text()
	a.Take()
	a.Give(0)
	a.Keep()
	if text != "\x05\x00" || b.Text() != "\x05\x00" || b.Count(Used) != 2 || b.Count(Free) != 7 || a.Text() != "\x06\x00" {
		t.Errorf("%x, %x, %x", text, a.Text(), b.Text())
	}
}

// P1: a zero Space has no pages.
func TestZero(t *testing.T) {
	var s Space
	s.Keep()
	s.Undo()
	id, e := s.Take()
	if s.Len() != 0 || s.State(0) != -1 || s.Count(Free) != 0 || id != 0 || e != api.ErrFull || s.Give(0) != api.ErrNone || s.Text() != "" {
		t.Error("a zero Space has something")
	}
}
