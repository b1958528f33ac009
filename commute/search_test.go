package commute

import (
	"maps"
	"math"
	"math/rand"
	"slices"
	"testing"

	"armoire/adt"
	"armoire/api"
	"armoire/method"
	"armoire/value"
)

// stepsOf: of a type all steps of these texts and numbers, whose calls may be asked, with all answers that may be.
func stepsOf(kind int, texts []string, numbers []int64) []adt.Step {
	var results []method.Result
	for _, code := range []int{method.Yes, method.No} {
		for _, text := range texts {
			results = append(results, method.Result{Code: code, Text: text})
		}
		for _, n := range numbers {
			if n != 0 {
				results = append(results, method.Result{Code: code, N: n})
			}
		}
	}
	var all []adt.Step
	for _, c := range callsOf(kind, texts, numbers) {
		for _, r := range results {
			all = append(all, adt.Step{Call: c, Result: r})
		}
	}
	return all
}

// callsOf: of a type all calls of these that may be asked.
func callsOf(kind int, texts []string, numbers []int64) []method.Call {
	var all []method.Call
	for o := method.Op(1); o <= method.Last; o++ {
		for _, a := range texts {
			for _, b := range texts {
				for _, n := range numbers {
					c := method.Call{Op: o, A: a, B: b, N: n}
					if o.Kind() == kind && c.Check() == api.OK {
						all = append(all, c)
					}
				}
			}
		}
	}
	return all
}

// statesOf: of a type all states of up to three rows of these texts, or of numbers beside these and their sums; of such as have rows some with more than there may be.
func statesOf(kind int, texts []string, numbers []int64) []value.State {
	switch kind {
	case value.Register:
		all := []value.State{value.New(kind)}
		for _, text := range texts {
			if text != "" {
				all = append(all, value.New(kind).With(value.Row{Key: text}))
			}
		}
		return all
	case value.Counter, value.Account:
		return numbered(kind, numbers)
	}
	all := []value.State{value.New(kind)}
	for from, size := 0, 0; size < 3; size++ {
		to := len(all)
		for _, s := range all[from:to] {
			all = append(all, grown(s, texts)...)
		}
		from = to
	}
	for _, s := range all[:len(all):len(all)] {
		for _, key := range []string{"m0", "m1", "m2", "m3", "m4", "m5", "m6", "m7", "m8"} {
			s = s.With(value.Row{Key: key})
		}
		all = append(all, s)
	}
	return all
}

// numbered: states of these numbers, of those beside them, and of sums of two.
func numbered(kind int, numbers []int64) []value.State {
	is := map[int64]bool{}
	for _, n := range numbers {
		for _, m := range numbers {
			for _, sum := range []int64{n - 1, n, n + 1, n + m - 1, n + m, n + m + 1} {
				is[sum] = true
			}
		}
	}
	var all []value.State
	for _, n := range slices.Sorted(maps.Keys(is)) {
		if kind == value.Counter || n >= 0 && n <= 1<<50 {
			all = append(all, value.State{Kind: kind, N: n})
		}
	}
	return all
}

// grown: with one row more, as the last one, in all ways that may be.
func grown(s value.State, texts []string) []value.State {
	var all []value.State
	for _, key := range texts {
		for _, val := range texts {
			next := value.State{Kind: s.Kind, Rows: append(slices.Clone(s.Rows), value.Row{Key: key, Val: val})}
			if next.Check() == api.OK {
				all = append(all, next)
			}
		}
	}
	return all
}

// legal, behind: of a step.
func legal(s value.State, x adt.Step) bool { return adt.Legal(s, x.Call, x.Result) }

func behind(s value.State, x adt.Step) value.State { return adt.Apply(s, x.Call, x.Result) }

// parts: are both Legal in a state, but not in either order, or with unlike ends?
func parts(s value.State, x, y adt.Step) bool {
	if !legal(s, x) || !legal(s, y) {
		return false
	}
	sx, sy := behind(s, x), behind(s, y)
	return !legal(sx, y) || !legal(sy, x) || !behind(sx, y).Same(behind(sy, x))
}

// mustBe: Conflict in either order.
func mustBe(t *testing.T, x, y adt.Step, want bool) {
	t.Helper()
	if got := Conflict(x, y); got != want {
		t.Fatalf("%+v, %+v: %v", x, y, got)
	}
	if got := Conflict(y, x); got != want {
		t.Fatalf("%+v, %+v, the other way round: %v", x, y, got)
	}
}

// numbersOf: of a type those of which steps are made; all with wrong ones, too.
func numbersOf(kind int) []int64 {
	switch kind {
	case value.Counter:
		return []int64{math.MinInt64, math.MinInt64 + 1, -2, -1, 0, 1, 2, math.MaxInt64}
	case value.Account:
		return []int64{-1, 0, 1, 2, 3, 5, 1<<20 - 1, 1 << 20, 1<<20 + 1, 1<<50 - 1, 1 << 50}
	default:
		return []int64{-1, 0, 1}
	}
}

// P14.1 EXACT, P14.2: all pairs of steps of a type against a search through all small states; and Possible, too.
func TestSearch(t *testing.T) {
	texts := []string{"", "a", "b"}
	for kind := value.Register; kind <= value.Semi; kind++ {
		steps, states := stepsOf(kind, texts, numbersOf(kind)), statesOf(kind, texts, numbersOf(kind))
		in := make([][]value.State, len(steps)) // where each is Legal
		for k, x := range steps {
			for _, s := range states {
				if legal(s, x) {
					in[k] = append(in[k], s)
				}
			}
			if Possible(x) != (len(in[k]) > 0) {
				t.Fatalf("%+v: Possible: %v, %d states", x, Possible(x), len(in[k]))
			}
		}
		found := map[bool]int{}
		for k, x := range steps {
			for _, y := range steps[:k+1] {
				want := slices.ContainsFunc(in[k], func(s value.State) bool { return parts(s, x, y) })
				mustBe(t, x, y, want)
				if len(in[k]) > 0 && Possible(y) {
					found[want]++
				}
			}
		}
		if found[true] < 2 || found[false] < 2 {
			t.Errorf("%s: %v", value.Word(kind), found)
		}
	}
}

// P14.1: steps of unlike types never conflict, whatever they are.
func TestUnlikeTypes(t *testing.T) {
	var all []adt.Step
	for kind := value.Register; kind <= value.Semi; kind++ {
		for k, x := range stepsOf(kind, []string{"", "a"}, []int64{0, 1}) {
			if Possible(x) || k%4 == 0 {
				all = append(all, x)
			}
		}
	}
	for _, x := range all {
		for _, y := range all {
			if x.Call.Op.Kind() != y.Call.Op.Kind() {
				mustBe(t, x, y, false)
			}
		}
	}
}

// aText: any, and often one that was seen.
func aText(r *rand.Rand, seen *[]string) string {
	if len(*seen) > 0 && r.Intn(2) == 0 {
		return (*seen)[r.Intn(len(*seen))]
	}
	b := make([]byte, []int{0, 1, 2, 3, 23, 24}[r.Intn(6)])
	for k := range b {
		b[k] = []byte{0, 1, 'a', 'b', 0xff}[r.Intn(5)]
	}
	if len(*seen) > 0 && r.Intn(3) == 0 { // like one that was seen, but for its last byte
		b = []byte((*seen)[r.Intn(len(*seen))])
		if len(b) > 0 {
			b[len(b)-1]++
		}
	}
	*seen = append(*seen, string(b))
	return string(b)
}

// aNumber: any, and often beside one that was seen.
func aNumber(r *rand.Rand, seen *[]int64, least, most int64) int64 {
	n := int64(r.Uint64()) >> r.Intn(64)
	if len(*seen) > 0 && r.Intn(2) == 0 {
		n = (*seen)[r.Intn(len(*seen))] + int64(r.Intn(3)-1)
	}
	n = min(max(n, least), most)
	*seen = append(*seen, n)
	return n
}

// anyStep: of that type, mostly a possible one.
func anyStep(r *rand.Rand, kind int, texts *[]string, numbers *[]int64) adt.Step {
	o := method.Op(1 + r.Intn(17))
	for o.Kind() != kind {
		o = method.Op(1 + r.Intn(17))
	}
	x := adt.Step{Call: method.Call{Op: o}}
	switch o {
	case method.Add:
		x.Call.N = aNumber(r, numbers, math.MinInt64, math.MaxInt64)
	case method.Credit, method.Debit:
		x.Call.N = aNumber(r, numbers, 1, 1<<20)
	case method.Write, method.Insert, method.Remove, method.Has, method.Unbind, method.Look, method.Enq, method.Put:
		x.Call.A = aText(r, texts)
	case method.Bind:
		x.Call.A, x.Call.B = aText(r, texts), aText(r, texts)
	}
	x.Result.Code = 1 + r.Intn(2)
	switch {
	case o == method.Count:
		x.Result = counted(aNumber(r, numbers, math.MinInt64, math.MaxInt64))
	case o == method.Balance:
		x.Result = counted(aNumber(r, numbers, 0, 1<<50))
	case r.Intn(10) == 0, o == method.Read, x.Result.Code == method.Yes && (o == method.Look || o == method.Deq || o == method.Take):
		x.Result = told(aText(r, texts))
	}
	return x
}

// P14.1 EXACT, P14.2: pairs of steps with any texts and numbers against a search through the states that are made of these.
func TestSearchAny(t *testing.T) {
	r := rand.New(rand.NewSource(1))
	found := map[int]int{}
	for range 30000 {
		kind := 1 + r.Intn(7)
		texts, numbers := []string{}, []int64{}
		x, y := anyStep(r, kind, &texts, &numbers), anyStep(r, kind, &texts, &numbers)
		slices.Sort(texts)
		states := statesOf(kind, slices.Compact(append([]string{""}, texts...)), append(numbers, 0))
		is := func(f func(s value.State) bool) bool { return slices.ContainsFunc(states, f) }
		want := is(func(s value.State) bool { return parts(s, x, y) })
		mustBe(t, x, y, want)
		if got := is(func(s value.State) bool { return legal(s, x) }); got != Possible(x) {
			t.Fatalf("%+v: Possible: %v", x, Possible(x))
		}
		if want {
			found[kind]++
		}
	}
	for kind := 1; kind <= 7; kind++ {
		if found[kind] < 100 {
			t.Errorf("%s: %d", value.Word(kind), found[kind])
		}
	}
}

// orders: all of l, as rows of places, or some at chance, where they are many.
func orders(r *rand.Rand, many int) [][]int {
	if many > 4 {
		var all [][]int
		for range 24 {
			all = append(all, r.Perm(many))
		}
		return all
	}
	all := [][]int{{}}
	for k := range many {
		var next [][]int
		for _, l := range all {
			for at := range k + 1 {
				next = append(next, slices.Insert(slices.Clone(l), at, k))
			}
		}
		all = next
	}
	return all
}

// P14.3: steps none of which conflicts with another one, each Legal in a state, are Legal there in any order, and come to the same.
func TestAnyOrder(t *testing.T) {
	r := rand.New(rand.NewSource(2))
	texts := []string{"", "a", "b", "c", "d", fits}
	sizes := map[int]int{}
	for range 6000 {
		kind := 1 + r.Intn(7)
		numbers := []int64{-1, 0, 1, 2, 5, 100, 1 << 20}
		calls := callsOf(kind, texts, numbers)
		s := value.State{Kind: kind}
		switch kind {
		case value.Counter, value.Account:
			s.N = []int64{0, 1, 2, 3, 7, 1 << 20, 1 << 50}[r.Intn(7)]
		default:
			for range r.Intn(5) {
				if more := grown(s, texts); len(more) > 0 {
					s = more[r.Intn(len(more))]
				}
			}
		}
		var l []adt.Step
		for range 12 {
			c := calls[r.Intn(len(calls))]
			answers := adt.Answers(s, c)
			if x := (adt.Step{Call: c, Result: answers[r.Intn(len(answers))]}); Among(x, l...) < 0 {
				l = append(l, x)
			}
		}
		sizes[min(len(l), 8)]++
		var end value.State
		for k, order := range orders(r, len(l)) {
			var row []adt.Step
			for _, at := range order {
				row = append(row, l[at])
			}
			got, n := adt.Run(s, row...)
			if n != len(row) || k > 0 && !got.Same(end) {
				t.Fatalf("%+v: %+v: %d, %+v, not %+v", s, row, n, got, end)
			}
			end = got
		}
	}
	if sizes[2] < 50 || sizes[4] < 50 || sizes[8] < 500 {
		t.Errorf("%v", sizes)
	}
}
