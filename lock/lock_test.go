package lock

import (
	"math"
	"slices"
	"testing"

	"armoire/adt"
	"armoire/method"
)

var (
	bare = method.Result{Code: method.Yes}
	no   = method.Result{Code: method.No}
)

func told(text string) method.Result { return method.Result{Code: method.Yes, Text: text} }

// step, money: of a call with a text, or with a number.
func step(o method.Op, a string, r method.Result) adt.Step {
	return adt.Step{Call: method.Call{Op: o, A: a}, Result: r}
}

func money(o method.Op, n int64, r method.Result) adt.Step {
	return adt.Step{Call: method.Call{Op: o, N: n}, Result: r}
}

var (
	insert  = step(method.Insert, "a", bare)
	insertB = step(method.Insert, "b", bare)
	has     = step(method.Has, "a", bare)
	hasnt   = step(method.Has, "a", no)
	hasntB  = step(method.Has, "b", no)
)

// mustBe: of an object just this is held, and waited for.
func mustBe(t *testing.T, x *Table, name string, held, waiting []Lock) {
	t.Helper()
	if got := x.Held(name); !slices.Equal(got, held) {
		t.Errorf("Held %q: %+v, not %+v", name, got, held)
	}
	if got := x.Waiting(name); !slices.Equal(got, waiting) {
		t.Errorf("Waiting %q: %+v, not %+v", name, got, waiting)
	}
}

// mustBlock: these are the Blockers of a step, and Pick says the same.
func mustBlock(t *testing.T, x *Table, name string, txn int, s adt.Step, want ...int) {
	t.Helper()
	if got := x.Blockers(name, txn, s); !slices.Equal(got, want) {
		t.Errorf("Blockers %q, %d, %+v: %v, not %v", name, txn, s, got, want)
	}
	at := 0
	if len(want) > 0 {
		at = -1
	}
	if got := x.Pick(name, txn, s); got != at {
		t.Errorf("Pick %q, %d, %+v: %d, not %d", name, txn, s, got, at)
	}
}

// mustHave: these objects, and no others.
func mustHave(t *testing.T, x *Table, names ...string) {
	t.Helper()
	if got := x.Objects(); !slices.Equal(got, names) {
		t.Errorf("Objects: %q, not %q", got, names)
	}
}

// P16.1: the chapter's example.
func TestExample(t *testing.T) {
	x := New()
	x.Grant("s", 1, insert)
	mustBlock(t, x, "s", 2, hasnt, 1)
	mustBlock(t, x, "s", 2, hasntB)
}

// P16.1: of who holds nothing, and waits for nothing, nothing goes; also in a table that New didn't make.
func TestNone(t *testing.T) {
	for name, x := range map[string]*Table{"New": New(), "the zero one": {}} {
		if x.Unqueue("s", 1) || x.Drop("s", 1) || len(x.Release(1)) != 0 {
			t.Errorf("%s: something went", name)
		}
		mustBe(t, x, "s", nil, nil)
		mustHave(t, x)
		mustBlock(t, x, "s", 1, insert)
		x.Queue("s", 1, insert)
		x.Grant("", 2, insert)
		mustHave(t, x, "", "s")
		if x.Unqueue("s", 2) || x.Unqueue("", 2) || x.Drop("", 1) || x.Drop("s", 1) || x.Drop("t", 2) || len(x.Release(3)) != 0 {
			t.Errorf("%s: what is another's went", name)
		}
		mustBe(t, x, "s", nil, []Lock{{1, insert}})
		mustBe(t, x, "", []Lock{{2, insert}}, nil)
	}
}

// P16.1: who holds steps stands in the way of others that conflict: each once, rising, of that object alone.
func TestBlockersHeld(t *testing.T) {
	x := New()
	x.Grant("s", 7, hasnt)
	x.Grant("s", -3, hasnt)
	x.Grant("s", 5, hasntB)
	x.Grant("s", 7, hasntB)
	x.Grant("s", 7, hasnt)
	x.Grant("t", 1, hasnt)
	mustBlock(t, x, "s", 2, insert, -3, 7)
	mustBlock(t, x, "s", 7, insert, -3)
	mustBlock(t, x, "s", -3, insert, 7)
	mustBlock(t, x, "s", 5, insert, -3, 7)
	mustBlock(t, x, "s", 5, insertB, 7)
	mustBlock(t, x, "s", 2, insertB, 5, 7)
	mustBlock(t, x, "s", 2, hasnt)
	mustBlock(t, x, "s", 2, has)
	mustBlock(t, x, "t", 7, insert, 1)
	mustBlock(t, x, "u", 7, insert)
	mustBlock(t, x, "s", 2, step(method.Bind, "a", bare))
}

// P16.1: who waits has those in the way that wait ahead of it; who doesn't wait, all of them.
func TestBlockersWaiting(t *testing.T) {
	x := New()
	x.Queue("s", 4, hasnt)
	x.Queue("s", 2, insert)
	x.Queue("s", 9, hasntB)
	x.Queue("s", 3, hasnt)
	mustBlock(t, x, "s", 4, hasnt)
	mustBlock(t, x, "s", 4, insert)
	mustBlock(t, x, "s", 2, insert, 4)
	mustBlock(t, x, "s", 2, insertB)
	mustBlock(t, x, "s", 9, insert, 2, 4)
	mustBlock(t, x, "s", 9, insertB)
	mustBlock(t, x, "s", 3, hasnt, 2)
	mustBlock(t, x, "s", 3, insert, 2, 4)
	mustBlock(t, x, "s", 3, insertB, 9)
	mustBlock(t, x, "s", 1, insert, 2, 3, 4)
	mustBlock(t, x, "s", 1, hasnt, 2)
	mustBlock(t, x, "s", 1, insertB, 9)
	mustBlock(t, x, "t", 1, insert)
	x.Queue("t", 1, insert)
	mustBlock(t, x, "s", 1, hasnt, 2)
	x.Grant("s", 3, insertB)
	mustBlock(t, x, "s", 1, insert, 2, 4)
	mustBlock(t, x, "s", 9, hasntB, 3)
	mustBlock(t, x, "s", 3, hasnt, 2)
}

// P16.1: who holds a step and waits, too, stands in the way once.
func TestBlockersBoth(t *testing.T) {
	x := New()
	x.Grant("a", 1, money(method.Balance, 0, method.Result{Code: method.Yes, N: 9}))
	x.Grant("a", 2, money(method.Debit, 10, no))
	x.Queue("a", 2, money(method.Debit, 8, bare))
	x.Queue("a", 1, money(method.Credit, 5, bare))
	mustBlock(t, x, "a", 3, money(method.Credit, 1, bare), 1, 2)
	mustBlock(t, x, "a", 3, money(method.Debit, 9, bare), 1, 2)
	mustBlock(t, x, "a", 3, money(method.Debit, 10, bare), 2)
	mustBlock(t, x, "a", 3, money(method.Debit, 10, no), 1)
	mustBlock(t, x, "a", 1, money(method.Credit, 5, bare), 2)
	mustBlock(t, x, "a", 2, money(method.Debit, 8, bare), 1)
	mustBlock(t, x, "a", 2, money(method.Debit, 10, no))
}

// P16.1: the first one of some that has no Blockers.
func TestPick(t *testing.T) {
	x := New()
	take := func(text string) adt.Step { return step(method.Take, "", told(text)) }
	x.Grant("q", 1, take("a"))
	x.Grant("q", 2, take("b"))
	x.Queue("q", 3, take("a"))
	x.Queue("q", 4, take("c"))
	for name, c := range map[string]struct {
		txn  int
		l    []adt.Step
		want int
	}{
		"none":                        {5, nil, -1},
		"an empty list":               {5, []adt.Step{}, -1},
		"one that has some":           {5, []adt.Step{take("b")}, -1},
		"one that has none":           {5, []adt.Step{take("d")}, 0},
		"the first one":               {5, []adt.Step{take("d"), take("e")}, 0},
		"the last one":                {5, []adt.Step{take("a"), take("b"), take("c"), take("d")}, 3},
		"all have some":               {5, []adt.Step{take("a"), take("b"), take("c")}, -1},
		"the same again":              {5, []adt.Step{take("a"), take("d"), take("d")}, 1},
		"of one that holds":           {1, []adt.Step{take("b"), take("a"), take("d")}, 2},
		"of one that holds it alone":  {2, []adt.Step{take("a"), take("b"), take("d")}, 1},
		"of one that waits ahead":     {3, []adt.Step{take("a"), take("b"), take("c")}, 2},
		"of one that waits behind":    {4, []adt.Step{take("a"), take("b"), take("c")}, 2},
		"of one that waits, all have": {4, []adt.Step{take("a"), take("b")}, -1},
	} {
		was := slices.Clone(c.l)
		if got := x.Pick("q", c.txn, c.l...); got != c.want {
			t.Errorf("%s: %d, not %d", name, got, c.want)
		}
		if !slices.Equal(c.l, was) {
			t.Errorf("%s: now %+v", name, c.l)
		}
	}
	if got := x.Pick("r", 1, take("b"), take("a")); got != 0 {
		t.Errorf("of another object: %d", got)
	}
}

// P16.1: who waits already is queued anew where it stands; who was unqueued, or granted, as the last one.
func TestQueue(t *testing.T) {
	x := New()
	x.Queue("s", 2, insert)
	x.Queue("s", 1, hasnt)
	x.Queue("s", 3, has)
	x.Queue("s", 2, insertB)
	mustBe(t, x, "s", nil, []Lock{{2, insertB}, {1, hasnt}, {3, has}})
	mustBlock(t, x, "s", 1, hasnt)
	x.Queue("s", 3, hasntB)
	mustBe(t, x, "s", nil, []Lock{{2, insertB}, {1, hasnt}, {3, hasntB}})
	x.Queue("s", 1, hasnt)
	mustBe(t, x, "s", nil, []Lock{{2, insertB}, {1, hasnt}, {3, hasntB}})
	if !x.Unqueue("s", 2) || x.Unqueue("s", 2) {
		t.Error("Unqueue")
	}
	mustBe(t, x, "s", nil, []Lock{{1, hasnt}, {3, hasntB}})
	x.Queue("s", 2, insert)
	mustBe(t, x, "s", nil, []Lock{{1, hasnt}, {3, hasntB}, {2, insert}})
	x.Queue("t", 3, insert)
	mustBe(t, x, "t", nil, []Lock{{3, insert}})
	x.Grant("s", 1, insertB)
	mustBe(t, x, "s", []Lock{{1, insertB}}, []Lock{{3, hasntB}, {2, insert}})
	x.Queue("s", 1, has)
	mustBe(t, x, "s", []Lock{{1, insertB}}, []Lock{{3, hasntB}, {2, insert}, {1, has}})
	if !x.Unqueue("s", 2) || !x.Unqueue("s", 1) || !x.Unqueue("s", 3) || !x.Unqueue("t", 3) {
		t.Error("Unqueue")
	}
	mustBe(t, x, "s", []Lock{{1, insertB}}, nil)
	mustHave(t, x, "s")
}

// P16.1: Grant holds, as the last one, though it conflicts; it doesn't wait any more for that object alone.
func TestGrant(t *testing.T) {
	x := New()
	x.Queue("s", 1, hasnt)
	x.Queue("s", 2, has)
	x.Queue("t", 1, hasnt)
	x.Grant("s", 3, insert)
	x.Grant("s", 1, insert)
	mustBe(t, x, "s", []Lock{{3, insert}, {1, insert}}, []Lock{{2, has}})
	mustBe(t, x, "t", nil, []Lock{{1, hasnt}})
	x.Grant("s", 3, insert)
	x.Grant("s", math.MaxInt, has)
	mustBe(t, x, "s", []Lock{{3, insert}, {1, insert}, {3, insert}, {math.MaxInt, has}}, []Lock{{2, has}})
	x.Grant("t", 1, hasnt)
	mustBe(t, x, "t", []Lock{{1, hasnt}}, nil)
	mustHave(t, x, "s", "t")
}

// P16.1: the last step goes that it holds of that object; what it waits for stays.
func TestDrop(t *testing.T) {
	x := New()
	x.Grant("s", 1, insert)
	x.Grant("s", 2, insertB)
	x.Grant("s", 1, has)
	x.Grant("s", 1, insert)
	x.Grant("s", 2, insertB)
	x.Grant("t", 1, has)
	x.Queue("s", 1, hasntB)
	x.Queue("s", 2, hasnt)
	waits := []Lock{{1, hasntB}, {2, hasnt}}
	if !x.Drop("s", 1) {
		t.Error("Drop")
	}
	mustBe(t, x, "s", []Lock{{1, insert}, {2, insertB}, {1, has}, {2, insertB}}, waits)
	if !x.Drop("s", 1) || !x.Drop("s", 2) {
		t.Error("Drop")
	}
	mustBe(t, x, "s", []Lock{{1, insert}, {2, insertB}}, waits)
	if !x.Drop("s", 1) || x.Drop("s", 1) || !x.Drop("s", 2) || x.Drop("s", 2) {
		t.Error("Drop")
	}
	mustBe(t, x, "s", nil, waits)
	mustBe(t, x, "t", []Lock{{1, has}}, nil)
	mustHave(t, x, "s", "t")
	if !x.Drop("t", 1) || x.Drop("t", 1) {
		t.Error("Drop")
	}
	mustHave(t, x, "s")
}

// P16.1: all goes that it holds and waits for, of all objects, rising.
func TestRelease(t *testing.T) {
	x := New()
	for _, name := range []string{"b", "", "a\x00", "a", "\xff", "c"} {
		x.Grant(name, 2, has)
	}
	x.Grant("b", 1, insert)
	x.Grant("b", 1, has)
	x.Queue("a\x00", 1, insert)
	x.Queue("", 1, insert)
	x.Grant("", 1, hasnt)
	x.Queue("a", 1, insert)
	x.Grant("a", 1, has)
	x.Queue("a", 3, insert)
	x.Queue("a", 1, insert)
	x.Grant("d", 1, insert)
	x.Queue("e", 1, insert)
	if got := x.Release(1); !slices.Equal(got, []string{"", "a", "a\x00", "b", "d", "e"}) {
		t.Errorf("%q", got)
	}
	mustHave(t, x, "", "a", "a\x00", "b", "c", "\xff")
	mustBe(t, x, "b", []Lock{{2, has}}, nil)
	mustBe(t, x, "a", []Lock{{2, has}}, []Lock{{3, insert}})
	if got := x.Release(1); len(got) != 0 {
		t.Errorf("%q", got)
	}
	if got := x.Release(2); !slices.Equal(got, []string{"", "a", "a\x00", "b", "c", "\xff"}) {
		t.Errorf("%q", got)
	}
	mustHave(t, x, "a")
	if got := x.Release(3); !slices.Equal(got, []string{"a"}) {
		t.Errorf("%q", got)
	}
	mustHave(t, x)
}
