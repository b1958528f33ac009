package witness

import (
	"math/rand"
	"slices"
	"testing"

	"armoire/adt"
	"armoire/commute"
	"armoire/value"
)

// rowFrom: steps that are Legal from a state on, of which none conflicts with any of others; often a few, perhaps none.
func rowFrom(r *rand.Rand, s value.State, others []adt.Step) []adt.Step {
	calls := someCalls(s.Kind)
	var row []adt.Step
	for range 1 + r.Intn(8) {
		c := calls[r.Intn(len(calls))]
		answers := adt.Answers(s, c)
		x := adt.Step{Call: c, Result: answers[r.Intn(len(answers))]}
		if commute.Among(x, others...) < 0 {
			row = append(row, x)
			s = adt.Apply(s, c, x.Result)
		}
	}
	return row
}

// weaves: rows woven into one: all of one behind the other, in either order of rows, and some at chance.
func weaves(r *rand.Rand, rows [][]adt.Step) [][]adt.Step {
	all := [][]adt.Step{slices.Concat(rows...)}
	slices.Reverse(rows)
	all = append(all, slices.Concat(rows...))
	for range 10 {
		left := slices.Clone(rows)
		var l []adt.Step
		for len(left) > 0 {
			k := r.Intn(len(left))
			if len(left[k]) == 0 {
				left = slices.Delete(left, k, k+1)
				continue
			}
			l = append(l, left[k][0])
			left[k] = left[k][1:]
		}
		all = append(all, l)
	}
	return all
}

// P28.3 WOVEN: rows that don't conflict are Legal from there on however they are woven, and come to the same.
func TestWoven(t *testing.T) {
	r := rand.New(rand.NewSource(5))
	states := someStates()
	many, changed := map[int]int{}, map[int]int{}
	for range 8000 {
		s := states[r.Intn(len(states))]
		was := look(s)
		var rows [][]adt.Step
		var others []adt.Step
		for range 2 + r.Intn(3) {
			if row := rowFrom(r, s, others); len(row) > 0 {
				rows = append(rows, row)
				others = append(others, row...)
			}
		}
		var end value.State
		for k, l := range weaves(r, rows) {
			got, n := adt.Run(s, l...)
			if n != len(l) || k > 0 && !got.Same(end) {
				t.Fatalf("%s: %+v: %d, %+v, not %+v", was, l, n, got, end)
			}
			end = got
		}
		if len(rows) > 1 {
			many[s.Kind]++
		}
		if len(rows) > 1 && !end.Same(s) {
			changed[s.Kind]++
		}
		if look(s) != was {
			t.Fatalf("%s: now %s", was, look(s))
		}
	}
	for kind := value.Register; kind <= value.Semi; kind++ {
		if many[kind] < 50 || changed[kind] < 10 {
			t.Errorf("%s: %d, %d", value.Word(kind), many[kind], changed[kind])
		}
	}
}
