package graph

import (
	"math"
	"slices"
	"testing"
)

// waits is who waits, and for whom.
type waits map[int][]int

// graphOf: a graph that says so.
func graphOf(w waits) *Graph {
	g := New()
	for x, on := range w {
		g.Set(x, on...)
	}
	return g
}

// mustSay: just these wait, for these.
func mustSay(t *testing.T, g *Graph, want waits) {
	t.Helper()
	var who []int
	for x, on := range want {
		who = append(who, x)
		if got := g.On(x); !slices.Equal(got, on) {
			t.Errorf("On %d: %v, not %v", x, got, on)
		}
	}
	slices.Sort(who)
	if got := g.Waits(); !slices.Equal(got, who) {
		t.Errorf("Waits: %v, not %v", got, who)
	}
}

// mustCircle: this is the Cycle, and its greatest number the Victim; where there is none, there is neither.
func mustCircle(t *testing.T, g *Graph, want ...int) {
	t.Helper()
	got := g.Cycle()
	if !slices.Equal(got, want) || len(want) == 0 && got != nil {
		t.Errorf("Cycle: %v, not %v", got, want)
	}
	greatest := 0
	if len(want) > 0 {
		greatest = slices.Max(want)
	}
	if v, there := g.Victim(); v != greatest || there != (len(want) > 0) {
		t.Errorf("Victim: %d, %v, of %v", v, there, want)
	}
}

// P17.1: the chapter's example.
func TestExample(t *testing.T) {
	g := New()
	g.Set(1, 2)
	g.Set(2, 3)
	g.Set(3, 2)
	mustCircle(t, g, 2, 3)
	if v, there := g.Victim(); v != 3 || !there {
		t.Errorf("Victim: %d, %v", v, there)
	}
}

// P17.1: nobody waits; also in a graph that New didn't make.
func TestNone(t *testing.T) {
	for name, g := range map[string]*Graph{"New": New(), "the zero one": {}} {
		mustSay(t, g, nil)
		mustCircle(t, g)
		g.Set(1)
		g.Set(2, []int{}...)
		g.Remove(1)
		if got := g.On(1); len(got) != 0 {
			t.Errorf("%s: %v", name, got)
		}
		mustSay(t, g, nil)
		mustCircle(t, g)
		g.Set(1, 2)
		mustSay(t, g, waits{1: {2}})
		if got := g.On(2); len(got) != 0 {
			t.Errorf("%s: %v", name, got)
		}
	}
}

// P17.1: Set takes the place of what was; numbers rise, each once; what it was handed stays.
func TestSet(t *testing.T) {
	g := New()
	on := []int{9, -4, 9, 5, math.MinInt, 5, 9, 0, math.MaxInt}
	was := slices.Clone(on)
	g.Set(5, on...)
	if !slices.Equal(on, was) {
		t.Errorf("now %v", on)
	}
	mustSay(t, g, waits{5: {math.MinInt, -4, 0, 5, 9, math.MaxInt}})
	on[0], on[1] = 70, 71
	mustSay(t, g, waits{5: {math.MinInt, -4, 0, 5, 9, math.MaxInt}})
	g.Set(-4, 5)
	g.Set(5, 3, 2)
	mustSay(t, g, waits{-4: {5}, 5: {2, 3}})
	g.Set(5, 7, 7)
	mustSay(t, g, waits{-4: {5}, 5: {7}})
	g.Set(6, 6)
	mustSay(t, g, waits{-4: {5}, 5: {7}, 6: {6}})
	g.Set(5)
	g.Set(3)
	mustSay(t, g, waits{-4: {5}, 6: {6}})
	g.Set(6)
	g.Set(-4)
	mustSay(t, g, nil)
}

// P17.1: Remove: it doesn't wait, and nobody waits for it; who waited for it alone waits no more.
func TestRemove(t *testing.T) {
	start := waits{1: {2}, 2: {1, 3}, 3: {1, 2, 3, 4}, 5: {1, 3}, 6: {7}, 8: {8}}
	for x, want := range map[int]waits{
		0:  start,
		-1: start,
		1:  {2: {3}, 3: {2, 3, 4}, 5: {3}, 6: {7}, 8: {8}},
		2:  {3: {1, 3, 4}, 5: {1, 3}, 6: {7}, 8: {8}},
		3:  {1: {2}, 2: {1}, 5: {1}, 6: {7}, 8: {8}},
		4:  {1: {2}, 2: {1, 3}, 3: {1, 2, 3}, 5: {1, 3}, 6: {7}, 8: {8}},
		5:  {1: {2}, 2: {1, 3}, 3: {1, 2, 3, 4}, 6: {7}, 8: {8}},
		6:  {1: {2}, 2: {1, 3}, 3: {1, 2, 3, 4}, 5: {1, 3}, 8: {8}},
		7:  {1: {2}, 2: {1, 3}, 3: {1, 2, 3, 4}, 5: {1, 3}, 8: {8}},
		8:  {1: {2}, 2: {1, 3}, 3: {1, 2, 3, 4}, 5: {1, 3}, 6: {7}},
	} {
		g := graphOf(start)
		g.Remove(x)
		mustSay(t, g, want)
		g.Remove(x)
		mustSay(t, g, want)
	}
	g := graphOf(start)
	for _, x := range []int{3, 1, 7, 8} {
		g.Remove(x)
	}
	mustSay(t, g, nil)
}

// P17.1, P17.2: the Cycle that is found first, by hand.
func TestCycle(t *testing.T) {
	for name, c := range map[string]struct {
		w    waits
		want []int
	}{
		"none":                                  {waits{1: {2, 3}, 2: {3}, 3: {4}}, nil},
		"none, backward":                        {waits{4: {1, 3}, 3: {2}, 2: {1}}, nil},
		"none, two ways to one":                 {waits{1: {2, 3}, 2: {4}, 3: {4}, 4: {5}}, nil},
		"of one":                                {waits{3: {3}}, []int{3}},
		"of one, below 0":                       {waits{-3: {-3}}, []int{-3}},
		"of one, 0":                             {waits{0: {0}}, []int{0}},
		"of two":                                {waits{1: {2}, 2: {1}}, []int{1, 2}},
		"of two, below 0":                       {waits{-1: {-2}, -2: {-1}}, []int{-2, -1}},
		"of the least and the greatest":         {waits{math.MaxInt: {math.MinInt}, math.MinInt: {math.MaxInt}}, []int{math.MinInt, math.MaxInt}},
		"of three":                              {waits{1: {3}, 3: {2}, 2: {1}}, []int{1, 3, 2}},
		"a way that leads into one":             {waits{1: {5}, 5: {4}, 4: {9}, 9: {5}}, []int{5, 4, 9}},
		"a way that leads into one of one":      {waits{1: {2}, 2: {3}, 3: {3}}, []int{3}},
		"two at once":                           {waits{1: {2}, 2: {1}, 3: {4}, 4: {3}}, []int{1, 2}},
		"two at once, the way into one":         {waits{1: {6}, 2: {3}, 3: {2}, 6: {7}, 7: {6}}, []int{6, 7}},
		"two behind one, the least way first":   {waits{1: {4, 2}, 2: {3}, 3: {2}, 4: {5}, 5: {4}}, []int{2, 3}},
		"two that share one":                    {waits{1: {2, 3}, 2: {1}, 3: {1}}, []int{1, 2}},
		"a longer one, that is met first":       {waits{1: {2, 4}, 2: {3}, 3: {4}, 4: {1}}, []int{1, 2, 3, 4}},
		"of itself, behind another":             {waits{2: {1, 2}, 1: {2}}, []int{1, 2}},
		"of itself, ahead of another":           {waits{1: {1, 2}, 2: {1}}, []int{1}},
		"who was left is met again":             {waits{1: {2, 3}, 2: {9}, 3: {2, 4}, 4: {3}}, []int{3, 4}},
		"who was left by an earlier one":        {waits{1: {8}, 2: {8, 1}, 3: {1, 2, 5}, 5: {3}, 8: {9}}, []int{3, 5}},
		"the greatest isn't the last":           {waits{1: {9}, 9: {4}, 4: {1}}, []int{1, 9, 4}},
		"back to the way's middle":              {waits{1: {2}, 2: {3}, 3: {4}, 4: {0, 2, 3}}, []int{2, 3, 4}},
		"some that wait for none of the circle": {waits{0: {7}, 1: {7}, 7: {10}, 8: {9, 1}, 9: {8}}, []int{8, 9}},
	} {
		t.Run(name, func(t *testing.T) { mustCircle(t, graphOf(c.w), c.want...) })
	}
}

// P17.1: what Cycle, Victim, On and Waits are asked changes nothing, and what they answer is nobody's.
func TestAnswersStay(t *testing.T) {
	g := graphOf(waits{1: {2, 5}, 2: {3}, 3: {2}})
	on, who, circle := g.On(1), g.Waits(), g.Cycle()
	for _, l := range [][]int{g.On(1), g.Waits(), g.Cycle(), g.On(2)} {
		for k := range l {
			l[k] = 1
		}
		_ = append(l[:0], 1, 1)
	}
	mustSay(t, g, waits{1: {2, 5}, 2: {3}, 3: {2}})
	mustCircle(t, g, 2, 3)
	g.Remove(2)
	g.Set(3, 4)
	g.Set(1, 9, 8)
	if !slices.Equal(on, []int{2, 5}) || !slices.Equal(who, []int{1, 2, 3}) || !slices.Equal(circle, []int{2, 3}) {
		t.Errorf("%v, %v, %v", on, who, circle)
	}
}

// P17.1: very long ways, and very many that wait for very many.
func TestLong(t *testing.T) {
	const many = 300000
	g := New()
	for x := range many {
		g.Set(x, x+1)
	}
	mustCircle(t, g)
	g.Set(many, many/2)
	if l := g.Cycle(); len(l) != many/2+1 || l[0] != many/2 || l[many/2] != many {
		t.Errorf("%d", len(l))
	}
	g = New()
	var all []int
	for x := range 1000 {
		g.Set(x, all...)
		all = append(all, x)
	}
	mustCircle(t, g)
	g.Set(0, all...)
	mustCircle(t, g, 0)
	g.Set(0, all[1:]...)
	mustCircle(t, g, 0, 1)
}
