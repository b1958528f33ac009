package record

import (
	"math/rand"
	"slices"
	"testing"

	"armoire/adt"
	"armoire/intent"
	"armoire/method"
	"armoire/value"
)

// plain is objects as a list of names, with a state each; and the catalog.
type plain struct {
	catalog value.State
	names   []string
	states  []value.State
}

// plainOf: of objects.
func plainOf(o Objects) *plain {
	p := &plain{}
	for name, s := range o {
		p.set(name, s.Clone())
	}
	return p
}

func (p *plain) set(name string, s value.State) {
	if name == "" {
		p.catalog = s
		return
	}
	if at := slices.Index(p.names, name); at >= 0 {
		p.states[at] = s
		return
	}
	p.names, p.states = append(p.names, name), append(p.states, s)
}

func (p *plain) get(name string) (value.State, bool) {
	if name == "" {
		return p.catalog, true
	}
	for at, n := range p.names {
		if n == name {
			return p.states[at], true
		}
	}
	for _, row := range p.catalog.Rows {
		if row.Key == name {
			return value.State{Kind: value.Kind(row.Val)}, true
		}
	}
	return value.State{}, false
}

// objects: and back.
func (p *plain) objects() Objects {
	o := Objects{"": p.catalog.Clone()}
	for at, name := range p.names {
		o[name] = p.states[at].Clone()
	}
	return o
}

func (p *plain) redo(l []intent.Entry) []string {
	var names []string
	for _, e := range l {
		s, there := p.get(e.Object)
		if there && method.Changes(e.Step.Call, e.Step.Result) {
			p.set(e.Object, adt.Apply(s, e.Step.Call, e.Step.Result))
			names = append(names, e.Object)
		}
	}
	return names
}

// legal: how many are, each behind all those ahead of it.
func (p *plain) legal(l []intent.Entry) int {
	for at, e := range l {
		q := plainOf(p.objects())
		q.redo(l[:at])
		s, there := q.get(e.Object)
		if !there || !slices.Contains(adt.Answers(s, e.Step.Call), e.Step.Result) {
			return at
		}
	}
	return len(l)
}

// same: all names that have a state in one of them.
func (p *plain) same(q *plain) bool {
	if lookAt(p.catalog) != lookAt(q.catalog) {
		return false
	}
	for _, name := range slices.Concat(p.names, q.names) {
		s, there := p.get(name)
		other, thereToo := q.get(name)
		if there != thereToo || lookAt(s) != lookAt(other) {
			return false
		}
	}
	return true
}

var (
	namesOne = []string{"a", "b", "0"}
	namesTwo = []string{"c", "d", name16}
	namesAll = slices.Concat(namesOne, namesTwo)
)

func pick(r *rand.Rand, l []string) string { return l[r.Intn(len(l))] }

// anyObjects: of which some have a state, mostly of the type by which the catalog names them, some are there by the catalog alone, and some aren't there.
func anyObjects(r *rand.Rand) Objects {
	o := Objects{}
	catalog := value.New(value.Directory)
	for _, name := range namesAll {
		kind := 1 + r.Intn(7)
		if r.Intn(4) > 0 {
			catalog = catalog.With(value.Row{Key: name, Val: value.Word(kind)})
		}
		if r.Intn(8) == 0 {
			kind = 1 + r.Intn(7)
		}
		if r.Intn(2) == 0 {
			o[name] = anyState(r, kind)
		}
	}
	o[""] = catalog
	return o
}

// anyState: behind any steps, Legal or not: perhaps with more rows than there may be.
func anyState(r *rand.Rand, kind int) value.State {
	s := value.New(kind)
	for range r.Intn(24) {
		e := anyEntry(r)
		s = adt.Apply(s, e.Step.Call, e.Step.Result)
	}
	return s
}

// stepOn: an entry of one of these, or of the catalog; mostly of an op of its type, and Legal.
func stepOn(r *rand.Rand, p *plain, names []string) intent.Entry {
	e := anyEntry(r)
	e.Object = pick(r, names)
	s, _ := p.get(e.Object)
	for r.Intn(10) > 0 && s.Kind != 0 && e.Step.Call.Op.Kind() != s.Kind {
		e.Step = anyEntry(r).Step
	}
	if c := &e.Step.Call; e.Object == "" && c.Op.Kind() == value.Directory {
		c.A = pick(r, namesAll)
		if c.Op == method.Bind {
			c.B = value.Word(1 + r.Intn(7)) // the catalog's words are those of types
		}
	}
	if l := adt.Answers(s, e.Step.Call); len(l) > 0 && r.Intn(10) > 0 {
		e.Step.Result = l[r.Intn(len(l))]
	}
	return e
}

// commitOn: entries one behind the other; of every other commit none, or few, that aren't Legal.
func commitOn(r *rand.Rand, o Objects, names []string) Commit {
	p := plainOf(o)
	c := Commit{Txn: r.Intn(100)}
	careful := r.Intn(2) == 0
	for range r.Intn(13) {
		e := stepOn(r, p, names)
		for tries := 0; careful && tries < 20 && p.legal([]intent.Entry{e}) == 0; tries++ {
			e = stepOn(r, p, names)
		}
		p.redo([]intent.Entry{e})
		c.Entries = append(c.Entries, e)
	}
	return c
}

// mustHave: objects are those of a plain one, object by object.
func mustHave(t *testing.T, o Objects, p *plain) {
	t.Helper()
	if look(o) != look(p.objects()) {
		t.Fatalf("%s, not %s", look(o), look(p.objects()))
	}
	for _, name := range append([]string{"", "none"}, namesAll...) {
		s, there := o.Get(name)
		want, is := p.get(name)
		if lookAt(s) != lookAt(want) || there != is {
			t.Fatalf("Get of %q: %s, %v, not %s, %v", name, lookAt(s), there, lookAt(want), is)
		}
	}
}

// P20.1: Get, Redo, Legal and Clone, behind any commits over any objects, against a plain one.
func TestAny(t *testing.T) {
	r := rand.New(rand.NewSource(11))
	some := append([]string{""}, namesAll...)
	legal, names := map[int]int{}, map[string]int{}
	for range 3000 {
		o := anyObjects(r)
		p := plainOf(o)
		mustHave(t, o, p)
		for range 4 {
			c := commitOn(r, o, some)
			entries := slices.Clone(c.Entries)
			clone, was := o.Clone(), look(o)
			n := o.Legal(c)
			if want := p.legal(c.Entries); n != want {
				t.Fatalf("%+v: %d, not %d", c, n, want)
			}
			legal[n]++
			mustHave(t, o, p)
			got, want := o.Redo(c), p.redo(c.Entries)
			if !slices.Equal(got, want) || !slices.Equal(c.Entries, entries) {
				t.Fatalf("%+v: %q, not %q", c, got, want)
			}
			for _, name := range got {
				names[name]++
			}
			mustHave(t, o, p)
			if look(clone) != was {
				t.Fatalf("%+v: the clone is %s, not %s", c, look(clone), was)
			}
		}
	}
	if legal[0] < 50 || legal[3] < 50 || legal[12] < 50 || names[""] < 50 || names[name16] < 50 {
		t.Errorf("%v, %v", legal, names)
	}
}

// P20.1: Same of any two, against a plain one.
func TestSameAny(t *testing.T) {
	r := rand.New(rand.NewSource(12))
	seen := map[bool]int{}
	for range 20000 {
		o := anyObjects(r)
		q := o.Clone()
		switch name := pick(r, namesAll); r.Intn(5) {
		case 0:
			delete(q, name)
		case 1:
			kind := value.Kind("set")
			if s, there := q.Get(name); there {
				kind = s.Kind
			}
			q[name] = value.New(kind)
		case 2:
			q.Redo(commitOn(r, q, append([]string{""}, namesAll...)))
		case 3:
			q = anyObjects(r)
		}
		want := plainOf(o).same(plainOf(q))
		if o.Same(q) != want || q.Same(o) != want {
			t.Fatalf("%v, %v: %s, %s", o.Same(q), q.Same(o), look(o), look(q))
		}
		seen[want]++
	}
	if seen[true] < 500 || seen[false] < 500 {
		t.Errorf("%v", seen)
	}
}

// P20.3: Redo of the entries that Change alone does what Redo of all does, and names the same.
func TestChangesAlone(t *testing.T) {
	r := rand.New(rand.NewSource(13))
	fewer := 0
	for range 10000 {
		o := anyObjects(r)
		p := o.Clone()
		c := commitOn(r, o, append([]string{""}, namesAll...))
		d := Commit{Txn: c.Txn}
		var list intent.List
		for _, e := range c.Entries {
			list.Add(e.Object, e.Step)
			if method.Changes(e.Step.Call, e.Step.Result) {
				d.Entries = append(d.Entries, e)
			}
		}
		if !slices.Equal(list.Redo(), d.Entries) {
			t.Fatalf("%+v: %+v", c, list.Redo())
		}
		if len(d.Entries) < len(c.Entries) {
			fewer++
		}
		got, want := p.Redo(d), o.Redo(c)
		if !slices.Equal(got, want) || look(p) != look(o) || !p.Same(o) {
			t.Fatalf("%+v: %q, %s, not %q, %s", c, got, look(p), want, look(o))
		}
	}
	if fewer < 1000 {
		t.Errorf("%d", fewer)
	}
}

// P20.4: two commits that name no object both, nor the catalog, in either order.
func TestEitherOrder(t *testing.T) {
	r := rand.New(rand.NewSource(14))
	legal := 0
	for range 10000 {
		o := anyObjects(r)
		p := o.Clone()
		c, d := commitOn(r, o, namesOne), commitOn(r, o, namesTwo)
		many := [2]int{o.Legal(c), 0}
		named := [2][]string{o.Redo(c), nil}
		many[1], named[1] = o.Legal(d), o.Redo(d)

		other := [2]int{0, p.Legal(d)}
		turned := [2][]string{nil, p.Redo(d)}
		other[0], turned[0] = p.Legal(c), p.Redo(c)

		if many != other || !slices.Equal(named[0], turned[0]) || !slices.Equal(named[1], turned[1]) {
			t.Fatalf("%+v, %+v: %v, %v", c, d, many, other)
		}
		if look(o) != look(p) || !o.Same(p) {
			t.Fatalf("%+v, %+v: %s, %s", c, d, look(o), look(p))
		}
		if many[0] > 2 && many[1] > 2 {
			legal++
		}
	}
	if legal < 1000 {
		t.Errorf("%d", legal)
	}
}

// P20.4: its bound: where one commit names the catalog, and Binds what the other one changes, the order tells.
func TestCatalogOrder(t *testing.T) {
	c := Commit{Entries: []intent.Entry{bind("a", "set", bare)}}
	d := Commit{Entries: []intent.Entry{entry("a", method.Insert, "x", bare)}}
	o, p := Empty(), Empty()
	o.Redo(c)
	o.Redo(d)
	p.Redo(d)
	p.Redo(c)
	if o.Same(p) || p.Same(o) {
		t.Errorf("%s, %s", look(o), look(p))
	}
}
