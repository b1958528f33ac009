package graph

import (
	"math"
	"math/rand"
	"slices"
	"testing"
)

// plain is a graph as pairs: the first one waits for the second one.
type plain map[[2]int]bool

// numbers are all that there are in it, rising.
func (p plain) numbers() []int {
	var l []int
	for k := range p {
		l = append(l, k[0], k[1])
	}
	slices.Sort(l)
	return slices.Compact(l)
}

func (p plain) on(x int) []int {
	var l []int
	for _, y := range p.numbers() {
		if p[[2]int{x, y}] {
			l = append(l, y)
		}
	}
	return l
}

func (p plain) waits() []int {
	return slices.DeleteFunc(p.numbers(), func(x int) bool { return len(p.on(x)) == 0 })
}

func (p plain) drop(which func(k [2]int) bool) {
	for k := range p {
		if which(k) {
			delete(p, k)
		}
	}
}

func (p plain) set(x int, on []int) {
	p.drop(func(k [2]int) bool { return k[0] == x })
	for _, y := range on {
		p[[2]int{x, y}] = true
	}
}

func (p plain) remove(x int) {
	p.drop(func(k [2]int) bool { return k[0] == x || k[1] == x })
}

// goes is the chapter's way from a number on, behind others: the part from a number on that is met again; nil: there is nobody left.
func (p plain) goes(way []int, x int, left map[int]bool) []int {
	if at := slices.Index(way, x); at >= 0 {
		return way[at:]
	}
	way = append(slices.Clip(way), x)
	for _, y := range p.on(x) {
		if left[y] {
			continue
		}
		if circle := p.goes(way, y, left); circle != nil {
			return circle
		}
	}
	left[x] = true
	return nil
}

func (p plain) cycle() []int {
	left := map[int]bool{}
	for _, x := range p.waits() {
		if circle := p.goes(nil, x, left); circle != nil {
			return circle
		}
	}
	return nil
}

// endless: does a circle remain, if those go that wait for nobody, again and again?
func (p plain) endless() bool {
	q := plain{}
	for k := range p {
		q[k] = true
	}
	for {
		n := len(q)
		for _, x := range q.numbers() {
			if len(q.on(x)) == 0 {
				q.remove(x)
			}
		}
		if len(q) == n {
			return n > 0
		}
	}
}

// mustMatch: the graph says what the plain one does; its Cycle is a circle, just if there is one; its Victim the greatest there, and the least of all only of a circle of itself.
func mustMatch(t *testing.T, g *Graph, p plain) []int {
	t.Helper()
	if got := g.Waits(); !slices.Equal(got, p.waits()) {
		t.Fatalf("Waits: %v, not %v", got, p.waits())
	}
	for _, x := range p.numbers() {
		if got := g.On(x); !slices.Equal(got, p.on(x)) {
			t.Fatalf("On %d: %v, not %v", x, got, p.on(x))
		}
	}
	circle := g.Cycle()
	if !slices.Equal(circle, p.cycle()) || len(circle) > 0 != p.endless() {
		t.Fatalf("%v: Cycle: %v, not %v", p, circle, p.cycle())
	}
	for at, x := range circle {
		if y := circle[(at+1)%len(circle)]; !p[[2]int{x, y}] || slices.Contains(circle[:at], x) {
			t.Fatalf("%v: Cycle: %v: no circle", p, circle)
		}
	}
	v, there := g.Victim()
	if there != (len(circle) > 0) || there && v != slices.Max(circle) || !there && v != 0 {
		t.Fatalf("%v: Victim: %d, %v, of %v", p, v, there, circle)
	}
	if there && v == p.numbers()[0] && !slices.Equal(circle, []int{v}) {
		t.Fatalf("%v: Victim: %d, the least of all, of %v", p, v, circle)
	}
	return circle
}

// P17.1 to P17.3: all graphs of three numbers, and of four.
func TestSmall(t *testing.T) {
	for _, l := range [][]int{{1, 2, 3}, {-1, 0, 1}, {math.MinInt, -5, 3, math.MaxInt}} {
		n := len(l)
		sizes := map[int]int{}
		for bits := range 1 << (n * n) {
			g, p := New(), plain{}
			for at, x := range l {
				var on []int
				for k, y := range l {
					if bits>>(at*n+k)&1 == 1 {
						on = append(on, y)
					}
				}
				g.Set(x, on...)
				p.set(x, on)
			}
			sizes[len(mustMatch(t, g, p))]++
		}
		for size := range n + 1 {
			if sizes[size] == 0 {
				t.Errorf("%v: no circle of %d", l, size)
			}
		}
	}
}

// P17.1 to P17.3: each call, behind any calls, against a plain graph; what was answered stays, and is nobody's.
func TestAnyCalls(t *testing.T) {
	r := rand.New(rand.NewSource(1))
	sizes := map[int]int{}
	for range 1000 {
		g, p := New(), plain{}
		most := 1 + r.Intn(3)
		for range 40 {
			x := r.Intn(10) - 2
			if r.Intn(5) == 0 {
				g.Remove(x)
				p.remove(x)
			} else {
				on := make([]int, r.Intn(most+1))
				for k := range on {
					on[k] = r.Intn(10) - 2
				}
				was := slices.Clone(on)
				g.Set(x, on...)
				p.set(x, on)
				if !slices.Equal(on, was) {
					t.Fatalf("Set %d: %v is %v now", x, was, on)
				}
				clear(on)
			}
			sizes[min(len(mustMatch(t, g, p)), 5)]++
			spoil(g, x)
		}
	}
	for size := range 6 {
		if sizes[size] < 30 {
			t.Errorf("circles of %d: %d", size, sizes[size])
		}
	}
}

// spoil writes over what a graph answers.
func spoil(g *Graph, x int) {
	for _, l := range [][]int{g.On(x), g.Waits(), g.Cycle()} {
		for k := range l {
			l[k] = 77
		}
	}
}
