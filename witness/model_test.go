package witness

import (
	"fmt"
	"math"
	"math/rand"
	"slices"
	"testing"

	"armoire/adt"
	"armoire/api"
	"armoire/commute"
	"armoire/method"
	"armoire/value"
)

// look: all that there is of a state, and what stands in the room behind its rows, as text.
func look(s value.State) string {
	return fmt.Sprintf("%d %d %d %q", s.Kind, s.N, len(s.Rows), s.Rows[:cap(s.Rows)])
}

// legal, behind: of a step.
func legal(s value.State, x adt.Step) bool { return adt.Legal(s, x.Call, x.Result) }

func behind(s value.State, x adt.Step) value.State { return adt.Apply(s, x.Call, x.Result) }

// shown: what a state shows, by the chapter's words.
func shown(s value.State, x, y adt.Step) int {
	if !legal(s, x) || !legal(s, y) {
		return 0
	}
	if !legal(behind(s, x), y) {
		return 1
	}
	if !legal(behind(s, y), x) {
		return 2
	}
	if !behind(behind(s, x), y).Same(behind(behind(s, y), x)) {
		return 3
	}
	return 0
}

// mustFind: what Find finds is what it says, if the two conflict; else nothing.
func mustFind(t *testing.T, x, y adt.Step) int {
	t.Helper()
	s, shows := Find(x, y)
	if !commute.Conflict(x, y) {
		if s.Kind != 0 || s.N != 0 || len(s.Rows) != 0 || shows != 0 {
			t.Fatalf("%+v, %+v: %+v, %d", x, y, s, shows)
		}
		return shows
	}
	if s.Check() != api.OK || s.Kind == value.Account && s.N > 1<<50 || shows == 0 || shown(s, x, y) != shows || Shows(s, x, y) != shows {
		t.Fatalf("%+v, %+v: %+v, %d, not %d", x, y, s, shows, shown(s, x, y))
	}
	return shows
}

// someCalls: of a type those of few texts and numbers that may be asked.
func someCalls(kind int) []method.Call {
	var all []method.Call
	for o := method.Op(1); o <= method.Last; o++ {
		for _, a := range []string{"", "a", "b", fits} {
			for _, b := range []string{"", "a"} {
				for _, n := range []int64{math.MinInt64, -1, 0, 1, 2, 5, 1 << 20, math.MaxInt64} {
					if c := (method.Call{Op: o, A: a, B: b, N: n}); o.Kind() == kind && c.Check() == api.OK {
						all = append(all, c)
					}
				}
			}
		}
	}
	return all
}

// someSteps: of a type, with answers of all sorts that may be.
func someSteps(kind int) []adt.Step {
	results := []method.Result{bare, no, told("a"), told("b"), told(fits), counted(1), {Code: method.No, Text: "a"}, {Code: method.No, N: 1}}
	if kind == value.Counter || kind == value.Account {
		for _, n := range []int64{math.MinInt64, -1, 2, 4, 5, 6, 1<<20 - 1, 1 << 20, 1<<20 + 1, 1 << 50} {
			results = append(results, counted(n))
		}
	}
	var all []adt.Step
	for _, c := range someCalls(kind) {
		for _, r := range results {
			all = append(all, adt.Step{Call: c, Result: r})
		}
	}
	return all
}

// someStates: of each type some that may be, with room behind their rows.
func someStates() []value.State {
	all := []value.State{rows(value.Register), rows(value.Register, "a"), rows(value.Register, "b"), rows(value.Register, fits)}
	for _, n := range []int64{math.MinInt64, -1, 0, 1, 2, 5, math.MaxInt64} {
		all = append(all, value.State{Kind: value.Counter, N: n})
	}
	for _, n := range []int64{0, 1, 2, 4, 5, 6, 7, 9, 10, 1<<20 - 1, 1 << 20, 1 << 21, 1 << 50} {
		all = append(all, value.State{Kind: value.Account, N: n})
	}
	for _, kind := range []int{value.Set, value.Directory, value.Queue, value.Semi} {
		for _, l := range [][]string{nil, {""}, {"a"}, {"b"}, {fits}, {"", "a"}, {"a", "b"}, {"a", fits}, {"a", "a"}, {"", "", "a"}, {"b", "a", "b"}, {"c", "d", "e", "f", "g", "h", "i", "j"}, {"", "a", "b", "f", "g", "h", "i", fits}} {
			for _, val := range []string{"", "a", fits} {
				s := rows(kind, l...)
				for k := range s.Rows {
					s.Rows[k].Val = val
				}
				if s.Check() == api.OK {
					all = append(all, s)
				}
			}
		}
	}
	for k, s := range all {
		l := slices.Grow(slices.Clone(s.Rows), 4)
		for at := range l[len(l):cap(l)] {
			l[len(l):cap(l)][at] = value.Row{Key: "mark", Val: "mark"}
		}
		all[k].Rows = l
	}
	return all
}

// P28.1: what each of these states shows of any two steps that may be there, and of others; none is changed.
func TestShowsAny(t *testing.T) {
	r := rand.New(rand.NewSource(1))
	seen := map[int]int{}
	for _, s := range someStates() {
		was := look(s)
		var l, others []adt.Step
		for _, x := range someSteps(s.Kind) {
			if legal(s, x) {
				l = append(l, x)
			} else if r.Intn(20) == 0 {
				others = append(others, x)
			}
		}
		others = append(others, step(method.Put, "a", bare), step(method.Enq, "a", bare), money(method.Add, 1, bare), money(method.Credit, 1, bare))
		for _, x := range append(l, others...) {
			for _, y := range append(l, others...) {
				want := shown(s, x, y)
				if got := Shows(s, x, y); got != want {
					t.Fatalf("%s: %+v, %+v: %d, not %d", was, x, y, got, want)
				}
				if want != 0 && !commute.Conflict(x, y) {
					t.Fatalf("%s: %+v, %+v: %d, but no conflict", was, x, y, want)
				}
				seen[want]++
			}
		}
		if look(s) != was {
			t.Fatalf("%s: now %s", was, look(s))
		}
	}
	for shows := range 4 {
		if seen[shows] < 100 {
			t.Errorf("%d: %d", shows, seen[shows])
		}
	}
}

// P28.2 EXACT: all pairs of steps of a type: Find finds a state just if there is one among some, or the two conflict.
func TestFindAll(t *testing.T) {
	states := someStates()
	for kind := value.Register; kind <= value.Semi; kind++ {
		var l []adt.Step
		for k, x := range someSteps(kind) {
			if commute.Possible(x) || k%6 == 0 {
				l = append(l, x)
			}
		}
		found := map[int]int{}
		for _, x := range l {
			for _, y := range l {
				shows := mustFind(t, x, y)
				found[shows]++
				if shows == 0 && slices.ContainsFunc(states, func(s value.State) bool { return shown(s, x, y) != 0 }) {
					t.Fatalf("%+v, %+v: nothing found", x, y)
				}
			}
		}
		ends := kind == value.Register || kind == value.Queue
		if found[Second] == 0 || found[First] == 0 || found[0] == 0 || (found[Ends] > 0) != ends {
			t.Errorf("%s: %v", value.Word(kind), found)
		}
	}
}

// P28.1: of unlike types Find finds nothing, whatever the steps are.
func TestFindUnlikeTypes(t *testing.T) {
	var all []adt.Step
	for kind := value.Register; kind <= value.Semi; kind++ {
		for k, x := range someSteps(kind) {
			if commute.Possible(x) && k%2 == 0 || k%9 == 0 {
				all = append(all, x)
			}
		}
	}
	for _, x := range all {
		for _, y := range all {
			if s, shows := Find(x, y); x.Call.Op.Kind() != y.Call.Op.Kind() && (s.Kind != 0 || s.N != 0 || len(s.Rows) != 0 || shows != 0) {
				t.Fatalf("%+v, %+v: %+v, %d", x, y, s, shows)
			}
		}
	}
}

// anyPair: of one type, of any texts and numbers, often such as conflict.
func anyPair(r *rand.Rand) (adt.Step, adt.Step) {
	text := make([]byte, r.Intn(25))
	for k := range text {
		text[k] = byte(r.Intn(256))
	}
	texts := []string{string(text), "", string(text[:len(text)/2]), fits}
	n := r.Int63n(1 << r.Intn(51))
	any := func(kind int) adt.Step {
		o := method.Op(1 + r.Intn(17))
		for o.Kind() != kind {
			o = method.Op(1 + r.Intn(17))
		}
		c := method.Call{Op: o}
		for range 4 {
			if with := (method.Call{Op: o, A: texts[r.Intn(3)], N: c.N}); with.Check() == api.OK {
				c = with
			}
			if with := (method.Call{Op: o, A: c.A, B: texts[r.Intn(4)], N: c.N}); with.Check() == api.OK {
				c = with
			}
			if with := (method.Call{Op: o, A: c.A, B: c.B, N: []int64{n, -n, n + 1, 1, 1 << 20, 1 + r.Int63n(1<<20)}[r.Intn(6)]}); with.Check() == api.OK {
				c = with
			}
		}
		if c.Check() != api.OK {
			c.N = 1
		}
		x := adt.Step{Call: c, Result: []method.Result{bare, no, told(texts[r.Intn(4)])}[r.Intn(3)]}
		if o == method.Count || o == method.Balance {
			x.Result = counted(min([]int64{n, n + 1, max(n-1, 0), 1 << 50}[r.Intn(4)], 1<<50))
		}
		return x
	}
	kind := 1 + r.Intn(7)
	return any(kind), any(kind)
}

// P28.2: pairs of any texts and numbers.
func TestFindAny(t *testing.T) {
	r := rand.New(rand.NewSource(2))
	found := map[int]int{}
	for range 200000 {
		x, y := anyPair(r)
		if e, f := x.Call.Check(), y.Result.Check(); e != api.OK || f != api.OK {
			t.Fatalf("%+v: %d, %d", x, e, f)
		}
		if mustFind(t, x, y) != 0 {
			found[x.Call.Op.Kind()]++
		}
	}
	for kind := value.Register; kind <= value.Semi; kind++ {
		if found[kind] < 500 {
			t.Errorf("%s: %d", value.Word(kind), found[kind])
		}
	}
}

// K3, K4: the state that is found is the asker's own, and the same is found again.
func TestFindStays(t *testing.T) {
	for kind := value.Register; kind <= value.Semi; kind++ {
		l := slices.DeleteFunc(someSteps(kind), func(x adt.Step) bool { return !commute.Possible(x) })
		for _, x := range l {
			for _, y := range l {
				s, shows := Find(x, y)
				was := s.Clone()
				for k := range s.Rows[:cap(s.Rows)] {
					s.Rows[:cap(s.Rows)][k] = value.Row{Key: "over", Val: "written"}
				}
				if again, same := Find(x, y); same != shows || !again.Same(was) {
					t.Fatalf("%+v, %+v: %+v, %d, not %+v, %d", x, y, again, same, was, shows)
				}
			}
		}
	}
}

// anySteps: of all types, some more often than others, so that many conflict, or few.
func anySteps(r *rand.Rand, pool []adt.Step, many int) []adt.Step {
	var l []adt.Step
	from, to := r.Intn(len(pool)), 1+r.Intn(len(pool))
	for range many {
		l = append(l, pool[(from+r.Intn(to))%len(pool)])
	}
	return l
}

// allSteps: of all types, mostly possible ones.
func allSteps() []adt.Step {
	var pool []adt.Step
	for kind := value.Register; kind <= value.Semi; kind++ {
		for k, x := range someSteps(kind) {
			if commute.Possible(x) || k%25 == 0 {
				pool = append(pool, x)
			}
		}
	}
	return pool
}

// P28.1: Clash and Parts of any steps against a plain model: all pairs, and whatever leads from one to the other.
func TestPairsAny(t *testing.T) {
	r := rand.New(rand.NewSource(3))
	pool := allSteps()
	clashes, parted := map[bool]int{}, map[int]int{}
	for range 6000 {
		l := anySteps(r, pool, r.Intn(20))
		was := slices.Clone(l)
		i, j := Clash(l...)
		wantI, wantJ := clashOf(l)
		if i != wantI || j != wantJ {
			t.Fatalf("%+v: %d, %d, not %d, %d", l, i, j, wantI, wantJ)
		}
		clashes[i >= 0]++
		got, want := Parts(l...), partsOf(l)
		if !slices.EqualFunc(got, want, slices.Equal) {
			t.Fatalf("%+v: %v, not %v", l, got, want)
		}
		for _, part := range got {
			parted[min(len(part), 4)]++
		}
		if !slices.Equal(l, was) {
			t.Fatalf("%+v: now %+v", was, l)
		}
	}
	if clashes[true] < 500 || clashes[false] < 500 || parted[1] < 500 || parted[2] < 500 || parted[4] < 500 {
		t.Errorf("%v, %v", clashes, parted)
	}
}

// clashOf: of all pairs the one whose later place is the least, then the earlier one.
func clashOf(l []adt.Step) (int, int) {
	besti, bestj := -1, -1
	for i := range l {
		for j := i + 1; j < len(l); j++ {
			if commute.Conflict(l[i], l[j]) && (bestj < 0 || j < bestj || j == bestj && i < besti) {
				besti, bestj = i, j
			}
		}
	}
	return besti, bestj
}

// partsOf: by what leads from each to each.
func partsOf(l []adt.Step) [][]int {
	leads := make([][]bool, len(l))
	for i := range l {
		leads[i] = make([]bool, len(l))
		for j := range l {
			leads[i][j] = i == j || commute.Conflict(l[i], l[j])
		}
	}
	for by := range l {
		for i := range l {
			for j := range l {
				leads[i][j] = leads[i][j] || leads[i][by] && leads[by][j]
			}
		}
	}
	var parts [][]int
	for i := range l {
		if slices.Index(leads[i], true) < i {
			continue
		}
		var part []int
		for j := range l {
			if leads[i][j] {
				part = append(part, j)
			}
		}
		parts = append(parts, part)
	}
	return parts
}

// K3: no two parts share anything, nor do two answers.
func TestPartsStay(t *testing.T) {
	r := rand.New(rand.NewSource(4))
	pool := allSteps()
	for range 2000 {
		l := anySteps(r, pool, r.Intn(16))
		a, b := Parts(l...), Parts(l...)
		want := partsOf(l)
		for k, part := range a {
			for at := range part[:cap(part)] {
				part[:cap(part)][at] = -7
			}
			if !slices.EqualFunc(a[k+1:], want[k+1:], slices.Equal) {
				t.Fatalf("%v, not %v", a, want)
			}
		}
		if !slices.EqualFunc(b, want, slices.Equal) {
			t.Fatalf("%v, not %v", b, want)
		}
	}
}
