package alarm

import (
	"cmp"
	"math"
	"math/rand"
	"slices"
	"testing"

	"armoire/api"
)

// plain is ticks by numbers.
type plain map[int]int

// bells are all that are set, in the order in which they ring.
func (p plain) bells() []bell {
	var l []bell
	for id, at := range p {
		l = append(l, bell{id, at})
	}
	slices.SortFunc(l, func(a, b bell) int { return cmp.Or(cmp.Compare(a.at, b.at), cmp.Compare(a.id, b.id)) })
	return l
}

// due: those up to a tick; they are set no more.
func (p plain) due(now int) []int {
	var l []int
	for _, b := range p.bells() {
		if b.at <= now {
			l = append(l, b.id)
			delete(p, b.id)
		}
	}
	return l
}

// anyTick: mostly one of few; now and then one at the ends, or beyond them.
func anyTick(r *rand.Rand, few int) int {
	ends := []int{0, 1, last - 1, last, last + 1, -1, math.MinInt, math.MaxInt}
	if r.Intn(8) == 0 {
		return ends[r.Intn(len(ends))]
	}
	return r.Intn(few)
}

// pair is a clock, and a plain one.
type pair struct {
	t      *testing.T
	r      *rand.Rand
	c      *Clock
	p      plain
	counts map[string]int
}

// set: of any number, to any tick.
func (q *pair) set(id, at int) {
	want := api.OK
	old, there := q.p[id]
	switch {
	case at < 0 || at > 1<<40:
		want = api.ErrArg
		q.counts["refused"]++
	case there && at < old:
		q.counts["earlier"]++
	case there && at > old:
		q.counts["later"]++
	}
	if want == api.OK {
		q.p[id] = at
	}
	if e := q.c.Set(id, at); e != want {
		q.t.Fatalf("Set(%d, %d): %d", id, at, e)
	}
}

func (q *pair) cancel(id int) {
	_, there := q.p[id]
	if was := q.c.Cancel(id); was != there {
		q.t.Fatalf("Cancel(%d): %v", id, was)
	}
	if there {
		q.counts["cancelled"]++
	}
	delete(q.p, id)
}

func (q *pair) due(now int) {
	many := len(q.p)
	want := q.p.due(now)
	l := q.c.Due(now)
	if !slices.Equal(l, want) || len(l) == 0 && l != nil {
		q.t.Fatalf("Due(%d): %v, not %v", now, l, want)
	}
	clear(l)
	switch {
	case many == 0:
	case len(want) == 0:
		q.counts["none due"]++
	case len(want) == many:
		q.counts["all due"]++
	default:
		q.counts["some due"]++
	}
}

// match: the clock says what the plain one does.
func (q *pair) match(numbers int) {
	bells := q.p.bells()
	if n := q.c.Len(); n != len(bells) {
		q.t.Fatalf("Len: %d, not %d", n, len(bells))
	}
	var first bell
	if len(bells) > 0 {
		first = bells[0]
	}
	if id, at, there := q.c.Next(); (bell{id, at}) != first || there != (len(bells) > 0) {
		q.t.Fatalf("Next: %d, %d, %v, not %v", id, at, there, first)
	}
	if len(bells) > 1 && bells[1].at == first.at {
		q.counts["like ticks"]++
	}
	for id := -numbers; id < numbers; id++ {
		want, is := q.p[id]
		if at, there := q.c.At(id); at != want || there != is {
			q.t.Fatalf("At(%d): %d, %v, not %d, %v", id, at, there, want, is)
		}
	}
}

// P18.1: each call, behind any calls on few numbers with few ticks, against a plain clock.
func TestAnyCalls(t *testing.T) {
	counts := map[string]int{}
	for seed := range 2000 {
		r := rand.New(rand.NewSource(int64(seed)))
		q := &pair{t: t, r: r, c: New(), p: plain{}, counts: counts}
		numbers, few := 1+r.Intn(20), 1+r.Intn(20)
		for range 100 {
			id := r.Intn(2*numbers) - numbers
			switch k := r.Intn(20); {
			case k < 14:
				q.set(id, anyTick(r, few))
			case k < 18:
				q.cancel(id)
			default:
				q.due(anyTick(r, few))
			}
			q.match(numbers)
		}
		q.due(last)
		q.match(numbers)
	}
	for _, what := range []string{"refused", "earlier", "later", "cancelled", "none due", "some due", "all due", "like ticks"} {
		if counts[what] < 1000 {
			t.Errorf("%s: %v", what, counts)
		}
	}
}

// P18.1: all that few calls on two numbers may come to, in whatever order.
func TestAllShort(t *testing.T) {
	calls := []func(q *pair){
		func(q *pair) { q.set(-1, 0) },
		func(q *pair) { q.set(-1, 2) },
		func(q *pair) { q.set(3, 0) },
		func(q *pair) { q.set(3, 1) },
		func(q *pair) { q.cancel(-1) },
		func(q *pair) { q.cancel(3) },
		func(q *pair) { q.due(0) },
		func(q *pair) { q.due(1) },
	}
	const long = 5
	many := 1
	for range long {
		many *= len(calls)
	}
	for which := range many {
		q := &pair{t: t, c: New(), p: plain{}, counts: map[string]int{}}
		for range long {
			calls[which%len(calls)](q)
			which /= len(calls)
			q.match(4)
		}
	}
}
