package record

import (
	"fmt"
	"maps"
	"slices"
	"testing"

	"armoire/adt"
	"armoire/intent"
	"armoire/method"
	"armoire/value"
)

// lookAt: all that there is of a state, as text.
func lookAt(s value.State) string {
	b := fmt.Sprint(s.Kind, " ", s.N, " ", len(s.Rows))
	for _, r := range s.Rows {
		b += fmt.Sprintf(" %q:%q", r.Key, r.Val)
	}
	return b
}

// look: all that there is of objects: which names have a state, and which one.
func look(o Objects) string {
	b := ""
	for _, name := range slices.Sorted(maps.Keys(o)) {
		b += fmt.Sprintf("%q is %s\n", name, lookAt(o[name]))
	}
	return b
}

// rows: of texts.
func rows(kind int, keys ...string) value.State {
	s := value.New(kind)
	for _, key := range keys {
		s.Rows = append(s.Rows, value.Row{Key: key})
	}
	return s
}

// number: a counter, or an account.
func number(kind int, n int64) value.State {
	return value.State{Kind: kind, N: n}
}

// catalogOf: names and words of types, one behind the other, the names rising.
func catalogOf(l ...string) value.State {
	s := value.New(value.Directory)
	for k := 0; k < len(l); k += 2 {
		s.Rows = append(s.Rows, value.Row{Key: l[k], Val: l[k+1]})
	}
	return s
}

// some: objects, of which a and q have states, g has one that the catalog doesn't name, and n and x are there by it alone.
func some() Objects {
	return Objects{
		"":  catalogOf("a", "account", "n", "counter", "q", "queue", "x", "set"),
		"a": number(value.Account, 9),
		"g": rows(value.Semi, "a", "b", "b"),
		"q": rows(value.Queue, "b", "a"),
	}
}

// mustGet: an object is there, and is that.
func mustGet(t *testing.T, o Objects, name string, want value.State) {
	t.Helper()
	if s, there := o.Get(name); lookAt(s) != lookAt(want) || !there {
		t.Errorf("Get of %q: %s, %v, not %s", name, lookAt(s), there, lookAt(want))
	}
}

// mustLack: no object is there; nothing is told beside that.
func mustLack(t *testing.T, o Objects, names ...string) {
	t.Helper()
	for _, name := range names {
		if s, there := o.Get(name); lookAt(s) != lookAt(value.State{}) || there {
			t.Errorf("Get of %q: %s, %v", name, lookAt(s), there)
		}
	}
}

// P20.1: Empty has the catalog alone, which names nothing; and each one is its asker's own.
func TestEmpty(t *testing.T) {
	o := Empty()
	mustGet(t, o, "", value.New(value.Directory))
	mustLack(t, o, "a", "q", "catalog", "directory")
	if look(o) != look(Objects{"": value.New(value.Directory)}) {
		t.Errorf("%s", look(o))
	}
	o.Redo(Commit{Entries: []intent.Entry{bind("a", "set", bare)}})
	mustGet(t, o, "a", value.New(value.Set))
	mustLack(t, Empty(), "a")
}

// P20.1: Get: what has a state, what is there by the catalog alone, of each type, what isn't there, and the catalog itself.
func TestGet(t *testing.T) {
	o := some()
	was := look(o)
	mustGet(t, o, "", catalogOf("a", "account", "n", "counter", "q", "queue", "x", "set"))
	mustGet(t, o, "a", number(value.Account, 9))
	mustGet(t, o, "g", rows(value.Semi, "a", "b", "b"))
	mustGet(t, o, "n", value.New(value.Counter))
	mustGet(t, o, "q", rows(value.Queue, "b", "a"))
	mustGet(t, o, "x", value.New(value.Set))
	mustLack(t, o, "b", "aa", "A", "set", "queue", "counter", "\x00", name16)
	for kind := value.Register; kind <= value.Semi; kind++ {
		o := Objects{"": catalogOf("a", value.Word(kind))}
		mustGet(t, o, "a", value.New(kind))
		o["a"] = number(value.Counter, 5) // also of another type than the catalog's
		mustGet(t, o, "a", number(value.Counter, 5))
	}
	if look(o) != was {
		t.Errorf("now %s", look(o))
	}
}

// K3: what Get answers is the asker's own: it may be written over, and stays whatever comes.
func TestGetOwn(t *testing.T) {
	o := some()
	for _, name := range []string{"", "a", "g", "n", "q", "x"} {
		was := look(o)
		s, _ := o.Get(name)
		for k := range s.Rows[:cap(s.Rows)] {
			s.Rows[:cap(s.Rows)][k] = value.Row{Key: "over", Val: "written"}
		}
		if look(o) != was {
			t.Errorf("%q: now %s", name, look(o))
		}
	}
	q, _ := o.Get("q")
	catalog, _ := o.Get("")
	o.Redo(Commit{Entries: []intent.Entry{entry("q", method.Deq, "", told("b")), entry("q", method.Enq, "z", bare), entry("", method.Unbind, "a", bare)}})
	if lookAt(q) != lookAt(rows(value.Queue, "b", "a")) || len(catalog.Rows) != 4 || catalog.Rows[0].Key != "a" {
		t.Errorf("%s; %s", lookAt(q), lookAt(catalog))
	}
}

// roomy: some, whose rows have room behind them.
func roomy() Objects {
	o := some()
	for name, s := range o {
		l := make([]value.Row, len(s.Rows), 12)
		copy(l, s.Rows)
		s.Rows = l
		o[name] = s
	}
	return o
}

// spoil: all rows are written over, also behind their end, and all names go.
func spoil(o Objects) {
	for _, s := range o {
		for k := range s.Rows[:cap(s.Rows)] {
			s.Rows[:cap(s.Rows)][k] = value.Row{Key: "over", Val: "written"}
		}
	}
	clear(o)
	o["more"] = value.New(value.Set)
}

// P20.1: a Clone goes its own way, and so do those that it was made of; also where rows have room behind them.
func TestClone(t *testing.T) {
	change := Commit{Entries: []intent.Entry{
		entry("q", method.Deq, "", told("b")), entry("q", method.Enq, "z", bare), entry("g", method.Put, "a", bare), entry("g", method.Take, "", told("b")),
		money("a", method.Credit, 1, bare), money("n", method.Add, 4, bare), bind("b", "set", bare), entry("b", method.Insert, "y", bare),
	}}
	for _, made := range []func() Objects{some, roomy, Empty} {
		for _, n := range []int{0, 1} { // as it is, and behind a Redo
			o := made()
			was := look(o)
			p := o.Clone()
			if look(p) != was || !p.Same(o) {
				t.Fatalf("%s", look(p))
			}
			p.Redo(Commit{Entries: change.Entries[:n*len(change.Entries)]})
			changed := look(p)
			if look(o) != was || (changed == was) != (n == 0) {
				t.Errorf("now %s", look(o))
			}
			spoil(p)
			if look(o) != was {
				t.Errorf("now %s", look(o))
			}

			p = o.Clone()
			o.Redo(Commit{Entries: change.Entries[:n*len(change.Entries)]})
			spoil(o)
			if look(p) != was {
				t.Errorf("now %s", look(p))
			}
			p.Redo(Commit{Entries: change.Entries[:n*len(change.Entries)]})
			if look(p) != changed {
				t.Errorf("%s, not %s", look(p), changed)
			}
		}
	}
}

// K3: rows that were handed in stay, and what stands behind them.
func TestRedoStays(t *testing.T) {
	l := make([]value.Row, 3, 8)
	copy(l, []value.Row{{Key: "a"}, {Key: "b"}, {Key: "c"}})
	was := slices.Clone(l[:8])
	for kind, c := range map[int][]intent.Entry{
		value.Set:   {entry("o", method.Insert, "d", bare), entry("o", method.Remove, "a", bare), entry("o", method.Insert, "a", bare)},
		value.Queue: {entry("o", method.Enq, "d", bare), entry("o", method.Deq, "", told("a")), entry("o", method.Enq, "a", bare)},
		value.Semi:  {entry("o", method.Take, "", told("b")), entry("o", method.Put, "b", bare), entry("o", method.Put, "b", bare)},
	} {
		o := Objects{"": value.New(value.Directory), "o": {Kind: kind, Rows: l}}
		entries := slices.Clone(c)
		if n := o.Legal(Commit{Entries: c}); n != 3 {
			t.Errorf("%d: %d", kind, n)
		}
		if got := o.Redo(Commit{Entries: c}); len(got) != 3 {
			t.Errorf("%d: %q", kind, got)
		}
		if !slices.Equal(l[:8], was) || !slices.Equal(c, entries) {
			t.Errorf("%d: now %v, %v", kind, l[:8], c)
		}
	}
}

// P20.1: Redo by hand: what has a state, what is there by the catalog alone, the catalog itself and what it names then, what isn't there, what doesn't Change, what isn't Legal, what is of another type; the names, in that order, also several times.
func TestRedo(t *testing.T) {
	o := some()
	got := o.Redo(Commit{Txn: 4, Entries: []intent.Entry{
		entry("q", method.Enq, "z", bare),
		entry("b", method.Insert, "y", bare), // not there yet
		bind("b", "set", bare),
		entry("b", method.Insert, "y", bare),
		entry("x", method.Has, "y", no),    // doesn't Change
		money("n", method.Count, 0, bare),  // doesn't
		money("a", method.Debit, 2, bare),  //
		money("a", method.Debit, 99, no),   // doesn't
		money("a", method.Debit, 99, bare), // not Legal, but done
		entry("q", method.Deq, "", told("b")),
		entry("g", method.Insert, "y", bare), // of another type
		entry("c", method.Put, "y", bare),    // not there
	}})
	if !slices.Equal(got, []string{"q", "", "b", "a", "a", "q", "g"}) {
		t.Errorf("%q", got)
	}
	want := Objects{
		"":  catalogOf("a", "account", "b", "set", "n", "counter", "q", "queue", "x", "set"),
		"a": number(value.Account, -92),
		"b": rows(value.Set, "y"),
		"g": rows(value.Semi, "a", "b", "b"),
		"q": rows(value.Queue, "a", "z"),
	}
	if look(o) != look(want) {
		t.Errorf("%s, not %s", look(o), look(want))
	}
	mustGet(t, o, "x", value.New(value.Set))

	// It is there as long as the catalog names it; what has a state stays.
	got = o.Redo(Commit{Entries: []intent.Entry{entry("", method.Unbind, "x", bare), entry("x", method.Insert, "a", bare), entry("", method.Unbind, "q", bare), entry("q", method.Enq, "a", bare), entry("", method.Unbind, "y", no)}})
	if !slices.Equal(got, []string{"", "", "q"}) {
		t.Errorf("%q", got)
	}
	mustLack(t, o, "x")
	mustGet(t, o, "q", rows(value.Queue, "a", "z", "a"))
}

// P20.1: Redo of nothing that Changes, or is there, changes nothing, and names nothing.
func TestRedoNothing(t *testing.T) {
	for _, l := range [][]intent.Entry{
		nil, {},
		{entry("b", method.Insert, "y", bare), entry("aa", method.Enq, "y", bare)},
		{entry("x", method.Insert, "y", no), entry("q", method.Deq, "", no), money("n", method.Add, 0, bare), entry("", method.Look, "a", told("account")), bind("a", "set", no)},
	} {
		for _, o := range []Objects{some(), Empty()} {
			was := look(o)
			if got := o.Redo(Commit{Txn: 1, Entries: l}); len(got) != 0 || look(o) != was {
				t.Errorf("%+v: %q, now %s", l, got, look(o))
			}
		}
	}
}

// P20.1: Redo of each op on what is there by the catalog alone, and likewise on what has that state.
func TestRedoNew(t *testing.T) {
	for op := method.Read; op <= method.Last; op++ {
		for _, r := range []method.Result{bare, no, told("a")} {
			for _, call := range []method.Call{{Op: op, A: "a"}, {Op: op, N: 3}} {
				e := intent.Entry{Object: "o", Step: adt.Step{Call: call, Result: r}}
				o := Objects{"": catalogOf("o", value.Word(op.Kind()))}
				p := o.Clone()
				p["o"] = value.New(op.Kind())
				changes := method.Changes(call, r)
				for _, x := range []Objects{o, p} {
					got := x.Redo(Commit{Entries: []intent.Entry{e}})
					if changes != slices.Equal(got, []string{"o"}) || !changes && len(got) != 0 {
						t.Errorf("%+v: %q", e, got)
					}
					mustGet(t, x, "o", adt.Apply(value.New(op.Kind()), call, r))
				}
				if _, has := o["o"]; has != changes || !o.Same(p) {
					t.Errorf("%+v: %s", e, look(o))
				}
			}
		}
	}
}

// P20.1: Legal: up to the first entry that isn't there, or isn't Legal, behind those ahead of it; nothing has changed.
func TestLegal(t *testing.T) {
	all := []intent.Entry{
		entry("q", method.Deq, "", told("b")),
		entry("q", method.Deq, "", told("a")),
		entry("q", method.Deq, "", no),
		bind("b", "set", bare),
		bind("b", "set", no),
		entry("b", method.Has, "y", no),
		entry("b", method.Insert, "y", bare),
		entry("b", method.Has, "y", bare),
		entry("", method.Look, "b", told("set")),
		money("n", method.Count, 0, bare),
		money("a", method.Debit, 9, bare),
		money("a", method.Debit, 1, no),
	}
	for at := range len(all) + 1 {
		o := some()
		was := look(o)
		if n := o.Legal(Commit{Entries: all[:at]}); n != at {
			t.Errorf("the first %d: %d", at, n)
		}
		for name, e := range map[string]intent.Entry{
			"not there":                entry("c", method.Has, "y", no),
			"not there, and Changes":   entry("c", method.Enq, "y", bare),
			"of another type":          entry("g", method.Insert, "y", bare),
			"another answer":           money("n", method.Count, 0, no),
			"a new one, but not empty": entry("x", method.Has, "y", bare),
			"the catalog":              entry("", method.Unbind, "b", told("b")),
			"the catalog's other type": entry("", method.Insert, "b", bare),
			"no op":                    entry("g", 0, "", bare),
		} {
			l := append(slices.Clone(all[:at]), e)
			if n := o.Legal(Commit{Entries: append(l, all[at:]...)}); n != at {
				t.Errorf("the first %d, then %s: %d", at, name, n)
			}
		}
		if look(o) != was {
			t.Errorf("now %s", look(o))
		}
	}
	// Without those ahead of it, it isn't.
	if n := some().Legal(Commit{Entries: all[1:]}); n != 0 {
		t.Errorf("%d", n)
	}
	if n := some().Legal(Commit{Entries: all[5:]}); n != 0 {
		t.Errorf("%d", n)
	}
}

// P20.1: Same: more names, fewer, other states, and what is there by the catalog alone.
func TestSame(t *testing.T) {
	with := func(name string, s value.State) Objects {
		o := some()
		o[name] = s
		return o
	}
	without := func(name string) Objects {
		o := some()
		delete(o, name)
		return o
	}
	for name, x := range map[string]struct {
		o, p Objects
		want bool
	}{
		"the same":                             {some(), some(), true},
		"none":                                 {Empty(), Empty(), true},
		"none, and some":                       {Empty(), some(), false},
		"a name more":                          {some(), with("h", value.New(value.Set)), false},
		"a name less, named":                   {some(), without("q"), false},
		"a name less, not named":               {some(), without("g"), false},
		"a name more, new as the catalog says": {some(), with("x", value.New(value.Set)), true},
		"both have it, new":                    {with("x", value.New(value.Set)), with("x", value.New(value.Set)), true},
		"a name more, named, of another type":  {some(), with("x", value.New(value.Queue)), false},
		"a name more, named, not new":          {some(), with("x", rows(value.Set, "a")), false},
		"a counter more, not new":              {some(), with("n", number(value.Counter, 1)), false},
		"a counter more, new":                  {some(), with("n", number(value.Counter, 0)), true},
		"another number":                       {some(), with("a", number(value.Account, 8)), false},
		"another type":                         {some(), with("a", number(value.Counter, 9)), false},
		"other rows":                           {some(), with("q", rows(value.Queue, "a", "b")), false},
		"a row less":                           {some(), with("g", rows(value.Semi, "a", "b")), false},
		"no rows":                              {some(), with("q", value.New(value.Queue)), false},
		"another catalog":                      {some(), with("", catalogOf("a", "account", "n", "counter", "q", "queue")), false},
		"another word":                         {some(), with("", catalogOf("a", "account", "n", "counter", "q", "queue", "x", "semiqueue")), false},
		"other names, as many":                 {Objects{"": catalogOf(), "a": value.New(value.Set)}, Objects{"": catalogOf(), "b": value.New(value.Set)}, false},
		"rows that are nil, and empty":         {with("q", value.State{Kind: value.Queue}), with("q", value.State{Kind: value.Queue, Rows: []value.Row{}}), true},
	} {
		was, other := look(x.o), look(x.p)
		if x.o.Same(x.p) != x.want || x.p.Same(x.o) != x.want {
			t.Errorf("%s: %v, %v", name, x.o.Same(x.p), x.p.Same(x.o))
		}
		if !x.o.Same(x.o) || !x.p.Same(x.p) || look(x.o) != was || look(x.p) != other {
			t.Errorf("%s: now %s, %s", name, look(x.o), look(x.p))
		}
	}
}
