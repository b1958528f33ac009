package adt

import (
	"math/rand"
	"slices"
	"testing"

	"armoire/method"
	"armoire/value"
)

// P13.1: Run by hand: none, all, and up to the first one that isn't Legal.
func TestRun(t *testing.T) {
	a, again, b := Step{call(method.Insert, "a"), bare}, Step{call(method.Insert, "a"), no}, Step{call(method.Insert, "b"), bare}
	gone, other := Step{call(method.Remove, "a"), bare}, Step{call(method.Put, "a"), bare}
	for name, x := range map[string]struct {
		l    []Step
		want int
		rows []value.Row
	}{
		"none":                         {nil, 0, rows("c")},
		"an empty list":                {[]Step{}, 0, rows("c")},
		"one":                          {[]Step{a}, 1, rows("a", "c")},
		"the first one isn't":          {[]Step{gone, a}, 0, rows("c")},
		"all":                          {[]Step{b, a, again, gone, a}, 5, rows("a", "b", "c")},
		"the last one isn't":           {[]Step{b, a, a}, 2, rows("a", "b", "c")},
		"one isn't, others behind are": {[]Step{b, b, a, gone}, 1, rows("b", "c")},
		"of another type":              {[]Step{a, other, b}, 1, rows("a", "c")},
	} {
		s, n := Run(value.State{Kind: value.Set, Rows: rows("c")}, x.l...)
		if n != x.want || s.Kind != value.Set || s.N != 0 || !slices.Equal(s.Rows, x.rows) {
			t.Errorf("%s: %+v, %d", name, s, n)
		}
	}
}

// P13.1: Run goes as far as the model does, and to where it does.
func TestRunAny(t *testing.T) {
	r := rand.New(rand.NewSource(5))
	whole, broken := 0, 0
	for range 20000 {
		s := anyState(r)
		m := modelOf(s)
		var l []Step
		want := -1
		for at := range r.Intn(16) {
			c := aCall(r, s.Kind)
			x := method.Result{Code: method.Yes, Text: aText(r)}
			if answers := m.answers(c); want < 0 && r.Intn(20) > 0 {
				x = answers[r.Intn(len(answers))]
			}
			if r.Intn(100) == 0 {
				c = aCall(r, 0)
			}
			l = append(l, Step{c, x})
			if want < 0 && !slices.Contains(m.answers(c), x) {
				want = at
			}
			if want < 0 {
				m.apply(c, x)
			}
		}
		if want < 0 {
			want = len(l)
			whole++
		} else {
			broken++
		}
		was, steps := look(s), slices.Clone(l)
		got, n := Run(s, l...)
		if n != want || look(got) != look(m.state()) {
			t.Fatalf("%s, %+v: %s, %d, not %s, %d", was, l, look(got), n, look(m.state()), want)
		}
		if look(s) != was || !slices.Equal(l, steps) {
			t.Fatalf("%s: now %s", was, look(s))
		}
	}
	if whole < 4000 || broken < 4000 {
		t.Errorf("%d, %d", whole, broken)
	}
}

// P13.1, K3: no call changes a state that it is asked of, also not behind its rows; what is answered shares nothing with it, nor with what is answered again.
func TestStay(t *testing.T) {
	r := rand.New(rand.NewSource(6))
	for range 30000 {
		s := roomy(anyState(r))
		c := aCall(r, []int{0, s.Kind, s.Kind}[r.Intn(3)])
		x := aResult(r, s, c)
		calls := map[string]func() value.State{
			"Apply": func() value.State { return Apply(s, c, x) },
			"Run": func() value.State {
				got, _ := Run(s, Step{c, x}, Step{c, x})
				return got
			},
			"Run of none": func() value.State {
				got, _ := Run(s)
				return got
			},
			"asked": func() value.State {
				Answers(s, c)
				Legal(s, c, x)
				Room(s, c, x, r.Intn(9), int64(r.Intn(9)))
				return value.State{}
			},
		}
		was := whole(s)
		for name, f := range calls {
			got := f()
			if whole(s) != was {
				t.Fatalf("%s: %+v, %+v: %s, not %s", name, c, x, whole(s), was)
			}
			told, again := look(got), f()
			scribble(got)
			if whole(s) != was || look(again) != told {
				t.Fatalf("%s: %+v, %+v: %s, not %s", name, c, x, whole(s), was)
			}
			keep := roomy(s)
			scribble(s)
			if look(again) != told {
				t.Fatalf("%s: %+v, %+v: %s, not %s", name, c, x, look(again), told)
			}
			for k := range s.Rows[:cap(s.Rows)] {
				s.Rows[:cap(s.Rows)][k] = keep.Rows[:cap(keep.Rows)][k]
			}
		}
	}
}

// P13.1, K3: a list of answers is the asker's own.
func TestAnswersStay(t *testing.T) {
	r := rand.New(rand.NewSource(7))
	for range 20000 {
		s := anyState(r)
		c := aCall(r, s.Kind)
		a, b := Answers(s, c), Answers(s, c)
		want := slices.Clone(b)
		for k := range a[:cap(a)] {
			a[:cap(a)][k] = method.Result{Code: 77, Text: "over"}
		}
		if !slices.Equal(b, want) || !slices.Equal(Answers(s, c), want) {
			t.Fatalf("%+v, %+v: %+v", s, c, b)
		}
	}
}
