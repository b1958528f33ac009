package intent

import (
	"math"
	"slices"
	"strconv"
	"strings"
	"testing"

	"armoire/adt"
	"armoire/api"
	"armoire/method"
	"armoire/value"
)

var (
	fits = strings.Repeat("x", 24)
	bare = method.Result{Code: method.Yes}
	no   = method.Result{Code: method.No}
)

func told(text string) method.Result { return method.Result{Code: method.Yes, Text: text} }

// step, money: of a call with a text, or with a number.
func step(o method.Op, a string, r method.Result) adt.Step {
	return adt.Step{Call: method.Call{Op: o, A: a}, Result: r}
}

func money(o method.Op, n int64, r method.Result) adt.Step {
	return adt.Step{Call: method.Call{Op: o, N: n}, Result: r}
}

// listOf: a list of these.
func listOf(t *testing.T, l ...Entry) *List {
	t.Helper()
	x := &List{}
	for _, e := range l {
		if err := x.Add(e.Object, e.Step); err != api.OK {
			t.Fatalf("Add: %d", err)
		}
	}
	return x
}

// some: entries on three objects, of which some change nothing.
func some() []Entry {
	return []Entry{
		{"s", step(method.Insert, "b", bare)},
		{"acc", money(method.Credit, 7, bare)},
		{"s", step(method.Insert, "b", no)},
		{"s", step(method.Has, "b", bare)},
		{"acc", money(method.Debit, 3, bare)},
		{"acc", money(method.Debit, 900, no)},
		{"n", money(method.Add, 0, bare)},
		{"s", step(method.Remove, "b", bare)},
		{"acc", money(method.Credit, 1<<20, bare)},
		{"q", step(method.Deq, "", no)},
		{"s", step(method.Insert, "c", bare)},
		{"a", step(method.Write, "", bare)},
	}
}

// P15.1: the chapter's example.
func TestExample(t *testing.T) {
	var x List
	if e, f := x.Add("a", money(method.Credit, 5, bare)), x.Add("a", money(method.Debit, 3, bare)); e != api.OK || f != api.OK {
		t.Fatalf("%d, %d", e, f)
	}
	if s := x.View("a", value.State{Kind: value.Account, N: 1}); s.Kind != value.Account || s.N != 3 || len(s.Rows) != 0 {
		t.Errorf("%+v", s)
	}
}

// P15.1: the zero list has none.
func TestNone(t *testing.T) {
	var x List
	mustBe(t, &x, nil)
	if l := x.Back(0); len(l) != 0 {
		t.Errorf("%+v", l)
	}
	mustBe(t, &x, nil)
	s := value.State{Kind: value.Queue, Rows: []value.Row{{Key: "b"}, {Key: "a"}}}
	if got := x.View("q", s); !got.Same(s) {
		t.Errorf("%+v", got)
	}
}

// P15.1: a full list, by hand.
func TestByHand(t *testing.T) {
	x := listOf(t, some()...)
	if x.Len() != 12 || !slices.Equal(x.All(), some()) {
		t.Errorf("%d, %+v", x.Len(), x.All())
	}
	if got := x.Objects(); !slices.Equal(got, []string{"a", "acc", "s"}) {
		t.Errorf("Objects: %q", got)
	}
	l := some()
	if got := x.Redo(); !slices.Equal(got, []Entry{l[0], l[1], l[4], l[7], l[8], l[10], l[11]}) {
		t.Errorf("Redo: %+v", got)
	}
	for object, want := range map[string][2]int64{"s": {2, 0}, "acc": {0, 1<<20 + 7}, "n": {0, 0}, "q": {0, 0}, "a": {0, 0}, "": {0, 0}, "ac": {0, 0}, "no": {0, 0}} {
		if rows, sum := x.Gain(object); int64(rows) != want[0] || sum != want[1] {
			t.Errorf("Gain of %q: %d, %d", object, rows, sum)
		}
	}
	if s := x.View("acc", value.State{Kind: value.Account, N: 1}); s.N != 1<<20+5 {
		t.Errorf("View: %+v", s)
	}
	if s := x.View("s", value.State{Kind: value.Set, Rows: []value.Row{{Key: "d"}}}); !slices.Equal(s.Rows, []value.Row{{Key: "c"}, {Key: "d"}}) {
		t.Errorf("View: %+v", s)
	}
	if s := x.View("a", value.State{Kind: value.Register, Rows: []value.Row{{Key: "d"}}}); s.Kind != value.Register || len(s.Rows) != 0 {
		t.Errorf("View: %+v", s)
	}
	if s := x.View("none", value.State{Kind: value.Account, N: 9}); s.Kind != value.Account || s.N != 9 {
		t.Errorf("View: %+v", s)
	}
}

// P15.1: Gain counts each row that came, whatever went, and all money that came, whatever went.
func TestGain(t *testing.T) {
	for name, x := range map[string]struct {
		l     []adt.Step
		rows  int
		money int64
	}{
		"a set":              {[]adt.Step{step(method.Insert, "a", bare), step(method.Remove, "a", bare), step(method.Insert, "a", bare), step(method.Insert, "a", no), step(method.Has, "a", bare)}, 2, 0},
		"one that only goes": {[]adt.Step{step(method.Remove, "a", bare), step(method.Remove, "b", bare)}, 0, 0},
		"a directory":        {[]adt.Step{{Call: method.Call{Op: method.Bind, A: "a", B: "b"}, Result: bare}, {Call: method.Call{Op: method.Bind, A: "a", B: "b"}, Result: no}, step(method.Unbind, "a", bare)}, 1, 0},
		"a queue":            {[]adt.Step{step(method.Deq, "", told("x")), step(method.Enq, "a", bare), step(method.Enq, "a", bare), step(method.Deq, "", no)}, 2, 0},
		"a semiqueue":        {[]adt.Step{step(method.Put, "a", bare), step(method.Take, "", told("a")), step(method.Take, "", bare), step(method.Put, "", bare), step(method.Put, "", bare)}, 3, 0},
		"an account":         {[]adt.Step{money(method.Credit, 1, bare), money(method.Debit, 9, bare), money(method.Credit, 1<<20, bare), money(method.Debit, 9, no)}, 0, 1<<20 + 1},
		"a counter":          {[]adt.Step{money(method.Add, 7, bare), money(method.Add, math.MaxInt64, bare)}, 0, 0},
		"a register":         {[]adt.Step{step(method.Write, "a", bare), step(method.Read, "", told("a"))}, 0, 0},
	} {
		list := &List{}
		for _, s := range x.l {
			list.Add("o", s)
			list.Add("other", step(method.Enq, "z", bare))
		}
		if rows, sum := list.Gain("o"); rows != x.rows || sum != x.money {
			t.Errorf("%s: %d, %d", name, rows, sum)
		}
		if rows, sum := list.Gain("other"); rows != len(x.l) || sum != 0 {
			t.Errorf("%s, beside it: %d, %d", name, rows, sum)
		}
	}
}

// P15.1: there are at most 12; a refused one changes nothing; behind a Back there is room again.
func TestFull(t *testing.T) {
	x := &List{}
	for k := range 12 {
		if e := x.Add("o"+strconv.Itoa(k%3), money(method.Add, int64(k), bare)); e != api.OK || x.Len() != k+1 {
			t.Fatalf("%d: %d, %d", k, e, x.Len())
		}
	}
	all := x.All()
	for range 3 {
		if e := x.Add("more", step(method.Write, "a", bare)); e != api.ErrFull {
			t.Fatalf("%d", e)
		}
		mustBe(t, x, all)
	}
	if gone := x.Back(11); !slices.Equal(gone, all[11:]) {
		t.Fatalf("%+v", gone)
	}
	last := Entry{"last", step(method.Write, "a", bare)}
	if e := x.Add(last.Object, last.Step); e != api.OK {
		t.Fatalf("%d", e)
	}
	mustBe(t, x, append(all[:11:11], last))
	if e := x.Add("more", step(method.Write, "a", bare)); e != api.ErrFull {
		t.Fatalf("%d", e)
	}
}

// P15.1: Back with any number: below 0 all go, above all stay.
func TestBack(t *testing.T) {
	for size := range 13 {
		for _, n := range []int{math.MinInt, -13, -2, -1, 0, 1, 2, 5, 11, 12, 13, 100, math.MaxInt} {
			l := some()[:size]
			x := listOf(t, l...)
			stay := min(max(n, 0), size)
			if gone := x.Back(n); !slices.Equal(gone, l[stay:]) {
				t.Fatalf("%d of %d: %+v", n, size, gone)
			}
			mustBe(t, x, l[:stay])
			if gone := x.Back(n); len(gone) != 0 {
				t.Fatalf("%d of %d, again: %+v", n, size, gone)
			}
			mustBe(t, x, l[:stay])
		}
	}
}

// P15.1: a list takes any step, also such as may not be; what it says of it is what layers 12 and 13 do.
func TestAnyStep(t *testing.T) {
	for _, s := range []adt.Step{
		{},
		step(0, "a", bare),
		step(-1, "a", bare),
		step(method.Last+1, "a", method.Result{Code: 7}),
		step(method.Insert, "a", method.Result{Code: 3}),
		step(method.Insert, strings.Repeat("x", 100), bare),
		money(method.Debit, math.MinInt64, bare),
		money(method.Credit, -5, no),
	} {
		x := listOf(t, Entry{"o", s}, Entry{"", s}, Entry{"o", s})
		l := []Entry{{"o", s}, {"", s}, {"o", s}}
		mustBe(t, x, l)
	}
}

// K3: what is answered is the asker's own, and what is handed stays the asker's.
func TestStay(t *testing.T) {
	over := Entry{"over", step(method.Write, "written", bare)}
	for size := range 13 {
		l := some()[:size]
		x := listOf(t, l...)
		for _, f := range []func() []Entry{x.All, x.Redo} {
			got := f()
			for k := range got[:cap(got)] {
				got[:cap(got)][k] = over
			}
			mustBe(t, x, l)
		}
		names := x.Objects()
		for k := range names[:cap(names)] {
			names[:cap(names)][k] = "over"
		}
		mustBe(t, x, l)

		// What is answered stays, whatever the list comes to have.
		all, redo, objects := x.All(), x.Redo(), x.Objects()
		wasRedo, wasObjects := slices.Clone(redo), slices.Clone(objects)
		gone := x.Back(size / 2)
		for x.Add(over.Object, over.Step) == api.OK {
		}
		if !slices.Equal(all, l) || !slices.Equal(redo, wasRedo) || !slices.Equal(objects, wasObjects) || !slices.Equal(gone, l[size/2:]) {
			t.Fatalf("%d: %+v, %+v, %q, %+v", size, all, redo, objects, gone)
		}
		x.Back(size / 2)
		for k := range gone[:cap(gone)] {
			gone[:cap(gone)][k] = Entry{"gone", over.Step}
		}
		mustBe(t, x, l[:size/2])
		x.Add(over.Object, over.Step)
		mustBe(t, x, append(slices.Clone(l[:size/2]), over))
	}
}
