package alarm

import (
	"math"
	"slices"
	"testing"

	"armoire/api"
)

const last = 1 << 40

// bell is a number, and the tick at which it rings.
type bell struct{ id, at int }

// clockOf: a clock on which these are set, in that order.
func clockOf(t *testing.T, bells ...bell) *Clock {
	t.Helper()
	c := New()
	for _, b := range bells {
		mustSet(t, c, b.id, b.at)
	}
	return c
}

func mustSet(t *testing.T, c *Clock, id, at int) {
	t.Helper()
	if e := c.Set(id, at); e != api.OK {
		t.Fatalf("Set(%d, %d): %d", id, at, e)
	}
}

// mustHave: just these are set, and the first one of them is the one that rings first.
func mustHave(t *testing.T, c *Clock, want ...bell) {
	t.Helper()
	if n := c.Len(); n != len(want) {
		t.Errorf("Len: %d, not %d", n, len(want))
	}
	for _, b := range want {
		if at, there := c.At(b.id); at != b.at || !there {
			t.Errorf("At(%d): %d, %v, not %d", b.id, at, there, b.at)
		}
	}
	var first bell
	if len(want) > 0 {
		first = want[0]
	}
	if id, at, there := c.Next(); (bell{id, at}) != first || there != (len(want) > 0) {
		t.Errorf("Next: %d, %d, %v, not %v", id, at, there, first)
	}
}

// mustDue: these are due, in that order; nil, if there is none.
func mustDue(t *testing.T, c *Clock, now int, want ...int) {
	t.Helper()
	l := c.Due(now)
	if !slices.Equal(l, want) || len(want) == 0 && l != nil {
		t.Errorf("Due(%d): %v, not %v", now, l, want)
	}
	for _, id := range want {
		if at, there := c.At(id); at != 0 || there {
			t.Errorf("At(%d) behind Due(%d): %d, %v", id, now, at, there)
		}
	}
}

// P18.1: the chapter's example.
func TestExample(t *testing.T) {
	c := clockOf(t, bell{3, 9}, bell{1, 9}, bell{2, 5})
	mustDue(t, c, 9, 2, 1, 3)
	mustHave(t, c)
}

// P18.1: none is set; also on a clock that New didn't make.
func TestNone(t *testing.T) {
	for _, c := range []*Clock{New(), {}, clockOf(t)} {
		mustHave(t, c)
		for _, id := range []int{math.MinInt, -1, 0, 1, math.MaxInt} {
			if at, there := c.At(id); at != 0 || there {
				t.Errorf("At(%d): %d, %v", id, at, there)
			}
			if c.Cancel(id) {
				t.Errorf("Cancel(%d)", id)
			}
			mustDue(t, c, id)
		}
		mustSet(t, c, 4, 7)
		mustHave(t, c, bell{4, 7})
		mustDue(t, c, 7, 4)
		mustHave(t, c)
	}
}

// P18.1: Set takes ticks from 0 to 2^40; beside ErrArg nothing is changed, also of a number that is set.
func TestSetEdges(t *testing.T) {
	c := New()
	for _, at := range []int{math.MinInt, -last, -2, -1, last + 1, last + 2, 2 * last, math.MaxInt} {
		for id := range 4 {
			if e := c.Set(id, at); e != api.ErrArg {
				t.Errorf("Set(%d, %d): %d", id, at, e)
			}
		}
		mustHave(t, c)
	}
	mustSet(t, c, 1, 0)
	mustSet(t, c, 2, last)
	mustSet(t, c, 3, last-1)
	for _, at := range []int{math.MinInt, -1, last + 1, math.MaxInt} {
		for id := range 5 {
			if e := c.Set(id, at); e != api.ErrArg {
				t.Errorf("Set(%d, %d): %d", id, at, e)
			}
		}
		mustHave(t, c, bell{1, 0}, bell{2, last}, bell{3, last - 1})
	}
	mustDue(t, c, -1)
	mustDue(t, c, 0, 1)
	mustDue(t, c, last-2)
	mustDue(t, c, last, 3, 2)
	mustHave(t, c)
}

// P18.1: a number that is set anew rings then, and not when it did.
func TestSetAnew(t *testing.T) {
	c := clockOf(t, bell{1, 10}, bell{2, 20}, bell{3, 30})
	mustSet(t, c, 3, 5)
	mustHave(t, c, bell{3, 5}, bell{1, 10}, bell{2, 20})
	mustSet(t, c, 1, 25)
	mustHave(t, c, bell{3, 5}, bell{2, 20}, bell{1, 25})
	mustSet(t, c, 2, 20)
	mustHave(t, c, bell{3, 5}, bell{2, 20}, bell{1, 25})
	mustSet(t, c, 3, 40)
	mustHave(t, c, bell{2, 20}, bell{1, 25}, bell{3, 40})
	mustDue(t, c, 19)
	mustDue(t, c, 39, 2, 1)
	mustHave(t, c, bell{3, 40})
	mustSet(t, c, 3, 0)
	mustDue(t, c, 0, 3)
	mustHave(t, c)
	mustSet(t, c, 3, 9)
	mustHave(t, c, bell{3, 9})
}

// P18.1: of like ticks the least number rings first, in whatever order they were set; numbers may be below 0.
func TestLikeTicks(t *testing.T) {
	ids := []int{math.MaxInt, 3, -2, 0, math.MinInt, 70, -1, 4}
	rising := slices.Sorted(slices.Values(ids))
	for turn := range ids {
		c := New()
		for k := range ids {
			mustSet(t, c, ids[(k+turn)%len(ids)], 12)
		}
		for _, id := range rising {
			if next, at, there := c.Next(); next != id || at != 12 || !there {
				t.Errorf("Next: %d, %d, %v, not %d", next, at, there, id)
			}
			if !c.Cancel(id) {
				t.Errorf("Cancel(%d)", id)
			}
		}
		for k := range ids {
			mustSet(t, c, ids[(k+turn)%len(ids)], 12)
		}
		mustSet(t, c, 5, 11)
		mustSet(t, c, -9, 13)
		mustDue(t, c, 12, append([]int{5}, rising...)...)
		mustHave(t, c, bell{-9, 13})
	}
}

// P18.1: what was Cancelled rings no more, first, last or in the middle; of what isn't set nothing changes.
func TestCancel(t *testing.T) {
	bells := []bell{{1, 1}, {-2, 2}, {3, 3}, {0, 3}, {5, 5}, {6, 6}, {7, 6}}
	for _, gone := range bells {
		c := clockOf(t, bells...)
		if c.Cancel(8) || c.Cancel(-1) || !c.Cancel(gone.id) || c.Cancel(gone.id) {
			t.Errorf("Cancel(%d)", gone.id)
		}
		if at, there := c.At(gone.id); at != 0 || there || c.Len() != len(bells)-1 {
			t.Errorf("At(%d): %d, %v of %d", gone.id, at, there, c.Len())
		}
		want := []int{1, -2, 0, 3, 5, 6, 7}
		want = slices.DeleteFunc(want, func(id int) bool { return id == gone.id })
		mustDue(t, c, 6, want...)
		mustHave(t, c)
	}
}

// P18.1: Due of none, of some and of all; what was due rings no more.
func TestDue(t *testing.T) {
	c := clockOf(t, bell{4, 8}, bell{2, 4}, bell{1, 2}, bell{3, 4})
	for _, now := range []int{math.MinInt, -1, 0, 1} {
		mustDue(t, c, now)
	}
	mustDue(t, c, 4, 1, 2, 3)
	mustDue(t, c, 4)
	mustHave(t, c, bell{4, 8})
	mustSet(t, c, 2, 4)
	mustSet(t, c, 1, 8)
	mustDue(t, c, math.MaxInt, 2, 1, 4)
	mustDue(t, c, math.MaxInt)
	mustHave(t, c)
}

// P18.1: what Due answers is the caller's; what Next and At are asked changes nothing.
func TestAnswersStay(t *testing.T) {
	c := clockOf(t, bell{1, 1}, bell{2, 2}, bell{3, 3}, bell{4, 4})
	l := c.Due(2)
	mustHave(t, c, bell{3, 3}, bell{4, 4})
	mustHave(t, c, bell{3, 3}, bell{4, 4})
	mustSet(t, c, 9, 2)
	m := c.Due(3)
	if !slices.Equal(l, []int{1, 2}) || !slices.Equal(m, []int{9, 3}) {
		t.Errorf("%v, %v", l, m)
	}
	l[0], m[0] = 77, 77
	_ = append(l[:0], 78, 79)
	mustHave(t, c, bell{4, 4})
	mustDue(t, c, 4, 4)
}

// P18.1: clocks go their own ways.
func TestApart(t *testing.T) {
	a, b := clockOf(t, bell{1, 5}), clockOf(t, bell{1, 6}, bell{2, 4})
	mustSet(t, a, 2, 9)
	b.Cancel(1)
	mustHave(t, a, bell{1, 5}, bell{2, 9})
	mustHave(t, b, bell{2, 4})
}

// P18.1: very many alarms, set anew, cancelled and due, without a look at all of them each time.
func TestMany(t *testing.T) {
	const many = 200000
	c := New()
	for id := range many {
		mustSet(t, c, id, last-id)
	}
	for id := range many {
		mustSet(t, c, id, id%1000)
	}
	for id := 0; id < many; id += 2 {
		c.Cancel(id)
	}
	if n := c.Len(); n != many/2 {
		t.Fatalf("Len: %d", n)
	}
	n := 0
	for now := range 1000 {
		l := c.Due(now)
		if !slices.IsSorted(l) || slices.ContainsFunc(l, func(id int) bool { return id%1000 != now || id%2 == 0 }) {
			t.Fatalf("Due(%d): %v", now, l)
		}
		n += len(l)
	}
	if n != many/2 || c.Len() != 0 {
		t.Errorf("%d, %d", n, c.Len())
	}
}
