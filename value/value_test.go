package value

import (
	"fmt"
	"math"
	"math/rand"
	"slices"
	"strings"
	"testing"

	"armoire/api"
)

var (
	fits = strings.Repeat("x", 24)
	long = strings.Repeat("x", 25)
)

// look: all that there is of a state, as text.
func look(s State) string {
	b := fmt.Sprint(s.Kind, " ", s.N, " ", len(s.Rows))
	for _, r := range s.Rows {
		b += fmt.Sprintf(" %q:%q", r.Key, r.Val)
	}
	return b
}

// isZero: is it the zero value?
func isZero(s State) bool {
	return s.Kind == 0 && s.N == 0 && s.Rows == nil
}

// rows: keys, without anything else.
func rows(keys ...string) []Row {
	var l []Row
	for _, key := range keys {
		l = append(l, Row{Key: key})
	}
	return l
}

// P11.1: the types' numbers and words, and what is neither.
func TestWords(t *testing.T) {
	if Register != 1 || Counter != 2 || Account != 3 || Set != 4 || Directory != 5 || Queue != 6 || Semi != 7 {
		t.Error("numbers")
	}
	for at, word := range []string{"register", "counter", "account", "set", "directory", "queue", "semiqueue"} {
		if Word(at+1) != word || Kind(word) != at+1 {
			t.Errorf("%d: %q, %d", at+1, Word(at+1), Kind(word))
		}
		for _, other := range []string{word + " ", " " + word, word + "\x00", strings.ToUpper(word), word[1:], word[:len(word)-1], word + word} {
			if Kind(other) != 0 {
				t.Errorf("Kind(%q): %d", other, Kind(other))
			}
		}
	}
	for _, kind := range []int{math.MinInt, -8, -1, 0, 8, 9, 256 + 1, 1<<32 + 1, math.MaxInt} {
		if Word(kind) != "" {
			t.Errorf("Word(%d): %q", kind, Word(kind))
		}
	}
	for _, word := range []string{"", "semi", "map", "1", "\xff"} {
		if Kind(word) != 0 {
			t.Errorf("Kind(%q): %d", word, Kind(word))
		}
	}
}

// P11.1: New: of each type one that may be; of what is no type one of that number.
func TestNew(t *testing.T) {
	for kind := 1; kind <= 7; kind++ {
		s := New(kind)
		if s.Kind != kind || s.N != 0 || len(s.Rows) != 0 || s.Check() != api.OK {
			t.Errorf("New(%d): %+v", kind, s)
		}
	}
	for _, kind := range []int{math.MinInt, -1, 0, 8, math.MaxInt} {
		s := New(kind)
		if s.Kind != kind || s.N != 0 || len(s.Rows) != 0 || s.Check() != api.ErrKind {
			t.Errorf("New(%d): %+v", kind, s)
		}
	}
}

// mixed: states that may be and others: of any type or none, with any rows.
func mixed(r *rand.Rand) State {
	s := State{Kind: r.Intn(10) - 1}
	if r.Intn(4) == 0 {
		s.N = []int64{-1, 1, math.MinInt64, math.MaxInt64, 300}[r.Intn(5)]
	}
	letters := []string{"", "a", "b", "b\x00", "c", "\xff", fits, long}
	for range r.Intn(11) {
		row := Row{Key: letters[r.Intn(7)]}
		if s.Kind == Directory || r.Intn(20) == 0 {
			row.Val = letters[r.Intn(7)]
		}
		if r.Intn(50) == 0 {
			row.Val = long
		}
		if r.Intn(50) == 0 {
			row.Key = long
		}
		s.Rows = append(s.Rows, row)
	}
	if r.Intn(4) > 0 {
		slices.SortStableFunc(s.Rows, func(a, b Row) int { return strings.Compare(a.Key, b.Key) })
	}
	if r.Intn(2) == 0 {
		s.Rows = slices.CompactFunc(s.Rows, func(a, b Row) bool { return a.Key == b.Key })
	}
	return s
}

// good: a state that may be.
func good(r *rand.Rand) State {
	s := State{Kind: 1 + r.Intn(7)}
	numbers := []int64{0, 1, 127, 128, 255, 256, 1 << 20, 1<<50 - 1, math.MaxInt64, -1, -128, -129, math.MinInt64, r.Int63(), -r.Int63()}
	switch s.Kind {
	case Counter:
		s.N = numbers[r.Intn(len(numbers))]
		return s
	case Account:
		s.N = max(numbers[r.Intn(len(numbers))], 0)
		return s
	}
	texts := func() string {
		b := make([]byte, []int{0, 1, 1, 2, 23, 24}[r.Intn(6)])
		for k := range b {
			b[k] = "\x00ab\xff"[r.Intn(4)]
		}
		return string(b)
	}
	for range r.Intn(9) {
		row := Row{Key: texts()}
		if s.Kind == Directory {
			row.Val = texts()
		}
		s.Rows = append(s.Rows, row)
	}
	if s.Kind == Register {
		s.Rows = slices.DeleteFunc(s.Rows, func(r Row) bool { return r.Key == "" })
		s.Rows = s.Rows[:min(len(s.Rows), 1)]
	}
	if s.Kind != Queue {
		slices.SortStableFunc(s.Rows, func(a, b Row) int { return strings.Compare(a.Key, b.Key) })
	}
	if s.Kind == Set || s.Kind == Directory {
		s.Rows = slices.CompactFunc(s.Rows, func(a, b Row) bool { return a.Key == b.Key })
	}
	return s
}

// P11.1: Same: of each part that is otherwise.
func TestSame(t *testing.T) {
	base := State{Kind: Directory, N: 3, Rows: []Row{{"a", "1"}, {"b", "2"}}}
	if !base.Same(base) || !base.Same(base.Clone()) || !(State{}).Same(State{Rows: []Row{}}) || !(State{Rows: []Row{}}).Same(State{}) {
		t.Error("Same")
	}
	for _, other := range []State{
		{},
		{Kind: Set, N: 3, Rows: base.Rows},
		{Kind: Directory, N: 4, Rows: base.Rows},
		{Kind: Directory, N: -3, Rows: base.Rows},
		{Kind: Directory, N: 3},
		{Kind: Directory, N: 3, Rows: base.Rows[:1]},
		{Kind: Directory, N: 3, Rows: []Row{{"a", "1"}, {"b", "3"}}},
		{Kind: Directory, N: 3, Rows: []Row{{"a", "1"}, {"c", "2"}}},
		{Kind: Directory, N: 3, Rows: []Row{{"a", ""}, {"b", "2"}}},
		{Kind: Directory, N: 3, Rows: []Row{{"b", "2"}, {"a", "1"}}},
		{Kind: Directory, N: 3, Rows: []Row{{"a", "1"}, {"b", "2"}, {}}},
	} {
		if base.Same(other) || other.Same(base) {
			t.Errorf("Same: %+v", other)
		}
	}
}

// P11.3: two states that may be are the Same just if their bytes are; and just if all that there is of them is.
func TestSameBytes(t *testing.T) {
	r := rand.New(rand.NewSource(1))
	var l []State
	for range 1500 {
		s := good(r)
		if s.Check() != api.OK {
			t.Fatalf("%+v", s)
		}
		l = append(l, s)
	}
	var looks, texts []string
	for _, s := range l {
		looks, texts = append(looks, look(s)), append(texts, s.Text())
	}
	same := 0
	for j, a := range l {
		for k, b := range l {
			if is := a.Same(b); is != (texts[j] == texts[k]) || is != (looks[j] == looks[k]) {
				t.Fatalf("%+v, %+v: %v", a, b, is)
			} else if is {
				same++
			}
		}
	}
	if same < 2*len(l) {
		t.Errorf("%d", same)
	}
}

// P11.1: Find: the first of that Key, also where they don't rise.
func TestFind(t *testing.T) {
	q := State{Kind: Queue, Rows: rows("z", "a", "z", "", "a")}
	for key, want := range map[string]int{"z": 0, "a": 1, "": 3} {
		if at, ok := q.Find(key); at != want || !ok {
			t.Errorf("Find(%q): %d, %v", key, at, ok)
		}
	}
	for _, key := range []string{"b", "zz", "\x00", "z\x00", long} {
		if at, ok := q.Find(key); at != 0 || ok {
			t.Errorf("Find(%q): %d, %v", key, at, ok)
		}
	}
	for kind := range 9 {
		if at, ok := New(kind).Find(""); at != 0 || ok {
			t.Errorf("Find: %d, %v", at, ok)
		}
	}
	if at, ok := (State{Kind: Set, Rows: []Row{{"a", "b"}}}).Find("b"); at != 0 || ok {
		t.Errorf("Find of a Val: %d, %v", at, ok)
	}
	r := rand.New(rand.NewSource(2))
	for range 5000 {
		s := mixed(r)
		for _, key := range []string{"", "a", "b", "c", fits, long, "none"} {
			want, there := 0, false
			for k := len(s.Rows) - 1; k >= 0; k-- {
				if s.Rows[k].Key == key {
					want, there = k, true
				}
			}
			if at, ok := s.Find(key); at != want || ok != there {
				t.Fatalf("%+v: Find(%q): %d, %v", s, key, at, ok)
			}
		}
	}
}

// P11.1: With: of a queue the last one, else behind all whose Key isn't above its; all others stay in their order.
func TestWith(t *testing.T) {
	for name, x := range map[string]struct {
		s    State
		r    Row
		want []Row
	}{
		"set, first":        {State{Kind: Set, Rows: rows("b", "c")}, Row{Key: "a"}, rows("a", "b", "c")},
		"set, between":      {State{Kind: Set, Rows: rows("a", "c")}, Row{Key: "b"}, rows("a", "b", "c")},
		"set, last":         {State{Kind: Set, Rows: rows("a", "b")}, Row{Key: "c"}, rows("a", "b", "c")},
		"set, empty":        {New(Set), Row{Key: "c"}, rows("c")},
		"set, the same":     {State{Kind: Set, Rows: rows("a", "b")}, Row{Key: "a"}, rows("a", "a", "b")},
		"directory, twice":  {State{Kind: Directory, Rows: []Row{{"a", "1"}, {"b", "2"}}}, Row{"a", "0"}, []Row{{"a", "1"}, {"a", "0"}, {"b", "2"}}},
		"queue":             {State{Kind: Queue, Rows: rows("z", "b")}, Row{Key: "a"}, rows("z", "b", "a")},
		"queue, again":      {State{Kind: Queue, Rows: rows("a", "b")}, Row{Key: "a"}, rows("a", "b", "a")},
		"semiqueue, again":  {State{Kind: Semi, Rows: rows("a", "b")}, Row{Key: "a"}, rows("a", "a", "b")},
		"register":          {New(Register), Row{Key: "a"}, rows("a")},
		"counter":           {State{Kind: Counter, N: 7}, Row{Key: "a", Val: "b"}, []Row{{"a", "b"}}},
		"no type":           {State{Kind: 99, Rows: rows("b")}, Row{Key: "a"}, rows("a", "b")},
		"full":              {State{Kind: Queue, Rows: make([]Row, 8)}, Row{Key: "a"}, append(make([]Row, 8), Row{Key: "a"})},
		"set, not rising":   {State{Kind: Set, Rows: rows("c", "a", "d")}, Row{Key: "b"}, rows("c", "a", "b", "d")},
		"set, not rising 2": {State{Kind: Set, Rows: rows("c", "a")}, Row{Key: "c"}, rows("c", "a", "c")},
	} {
		s := x.s.With(x.r)
		if s.Kind != x.s.Kind || s.N != x.s.N || !slices.Equal(s.Rows, x.want) {
			t.Errorf("%s: %+v", name, s)
		}
	}
	r := rand.New(rand.NewSource(3))
	for range 20000 {
		s := good(r)
		row := Row{Key: []string{"", "a", "b", "\xff", fits}[r.Intn(5)], Val: []string{"", "v"}[r.Intn(2)]}
		got := s.With(row)
		want := append(slices.Clone(s.Rows), row)
		if s.Kind != Queue {
			slices.SortStableFunc(want, func(a, b Row) int { return strings.Compare(a.Key, b.Key) })
		}
		if got.Kind != s.Kind || got.N != s.N || !slices.Equal(got.Rows, want) {
			t.Fatalf("%+v: With(%+v): %+v", s, row, got)
		}
	}
}

// P11.1: Without: each row, and places where there is none.
func TestWithout(t *testing.T) {
	r := rand.New(rand.NewSource(4))
	for range 5000 {
		s := mixed(r)
		for at := range s.Rows {
			var want []Row
			for k, row := range s.Rows {
				if k != at {
					want = append(want, row)
				}
			}
			if got := s.Without(at); got.Kind != s.Kind || got.N != s.N || !slices.Equal(got.Rows, want) {
				t.Fatalf("%+v: Without(%d): %+v", s, at, got)
			}
		}
		for _, at := range []int{math.MinInt, -1, len(s.Rows), len(s.Rows) + 1, math.MaxInt} {
			if got := s.Without(at); look(got) != look(s) {
				t.Fatalf("%+v: Without(%d): %+v", s, at, got)
			}
		}
	}
}

// P11.1: what is put in with With, and taken out at its place, leaves the state as it was.
func TestWithWithout(t *testing.T) {
	r := rand.New(rand.NewSource(5))
	for range 3000 {
		s := good(r)
		for _, key := range []string{"", "a", "ab", "\xff"} {
			with := s.With(Row{Key: key})
			at := len(s.Rows)
			if s.Kind != Queue {
				at = 0
				for at < len(s.Rows) && s.Rows[at].Key <= key {
					at++
				}
			}
			if with.Rows[at].Key != key || !with.Without(at).Same(s) {
				t.Fatalf("%+v: %q: %+v", s, key, with)
			}
		}
	}
}

// roomy: the same, with room behind its rows, in which a mark stands.
func roomy(s State) State {
	l := make([]Row, 0, len(s.Rows)+4)
	l = append(l, s.Rows...)
	for k := range l[len(l):cap(l)] {
		l[:cap(l)][len(l)+k] = Row{"mark", "mark"}
	}
	s.Rows = l
	return s
}

// whole: a state, and what stands in the room behind its rows.
func whole(s State) string {
	return look(s) + fmt.Sprint(s.Rows[:cap(s.Rows)])
}

// scribble: over all of a state's rows, and the room behind them.
func scribble(s State) {
	l := s.Rows[:cap(s.Rows)]
	for k := range l {
		l[k] = Row{"over", "written"}
	}
}

// P11.1, K3: no call changes a state that it is asked of, also not behind its rows; what is answered shares nothing with it, so that neither way a change of one is seen in the other.
func TestStay(t *testing.T) {
	calls := map[string]func(s, other State) State{
		"Clone":   func(s, _ State) State { return s.Clone() },
		"With":    func(s, _ State) State { return s.With(Row{"b", "c"}) },
		"first":   func(s, _ State) State { return s.With(Row{}) },
		"last":    func(s, _ State) State { return s.With(Row{Key: "\xff\xff"}) },
		"Without": func(s, _ State) State { return s.Without(0) },
		"second":  func(s, _ State) State { return s.Without(1) },
		"end":     func(s, _ State) State { return s.Without(len(s.Rows) - 1) },
		"none":    func(s, _ State) State { return s.Without(len(s.Rows)) },
		"below":   func(s, _ State) State { return s.Without(-1) },
		"asked": func(s, other State) State {
			s.Check()
			s.Same(other)
			s.Same(s)
			s.Find("b")
			s.Find("none")
			text := s.Text()
			x, _ := Parse(text)
			return x
		},
	}
	r := rand.New(rand.NewSource(6))
	for range 3000 {
		for name, call := range calls {
			s := roomy(mixed(r))
			if r.Intn(2) == 0 {
				s = roomy(good(r))
			}
			other := roomy(s)
			was, otherWas := whole(s), whole(other)
			got := call(s, other)
			if whole(s) != was || whole(other) != otherWas {
				t.Fatalf("%s: %s, not %s", name, whole(s), was)
			}
			told := look(got)
			again := call(s, other)
			scribble(got)
			if whole(s) != was || look(again) != told {
				t.Fatalf("%s: %s, not %s", name, whole(s), was)
			}
			scribble(s)
			if look(again) != told {
				t.Fatalf("%s: %s, not %s", name, look(again), told)
			}
		}
	}
}

// P11.1: Clone: the same, whatever it is.
func TestClone(t *testing.T) {
	r := rand.New(rand.NewSource(7))
	for range 5000 {
		s := mixed(r)
		if c := s.Clone(); look(c) != look(s) || !c.Same(s) {
			t.Fatalf("%+v: %+v", s, c)
		}
	}
}
