package intent

import (
	"fmt"
	"math/rand"
	"slices"
	"testing"

	"armoire/adt"
	"armoire/api"
	"armoire/method"
	"armoire/value"
)

// look: all that there is of a state, as text.
func look(s value.State) string {
	b := fmt.Sprint(s.Kind, " ", s.N, " ", len(s.Rows))
	for _, r := range s.Rows {
		b += fmt.Sprintf(" %q:%q", r.Key, r.Val)
	}
	return b
}

// bases: of each type an empty state, and one that isn't.
func bases() []value.State {
	ab := []value.Row{{Key: "a"}, {Key: "b"}}
	return []value.State{
		value.New(value.Register), {Kind: value.Register, Rows: []value.Row{{Key: "b"}}},
		value.New(value.Counter), {Kind: value.Counter, N: -9},
		value.New(value.Account), {Kind: value.Account, N: 1 << 50},
		value.New(value.Set), {Kind: value.Set, Rows: ab},
		value.New(value.Directory), {Kind: value.Directory, Rows: []value.Row{{Key: "", Val: "b"}, {Key: "a", Val: "x"}}},
		value.New(value.Queue), {Kind: value.Queue, Rows: []value.Row{{Key: "b"}, {Key: "a"}, {Key: "b"}}},
		value.New(value.Semi), {Kind: value.Semi, Rows: []value.Row{{Key: "a"}, {Key: "a"}, {Key: "b"}}},
	}
}

// viewOf: a state behind these on an object.
func viewOf(l []Entry, object string, s value.State) value.State {
	for _, e := range l {
		if e.Object == object {
			s = adt.Apply(s, e.Step.Call, e.Step.Result)
		}
	}
	return s
}

// mustBe: a list has just these, and says of them what the chapter says.
func mustBe(t *testing.T, x *List, want []Entry) {
	t.Helper()
	if x.Len() != len(want) || !slices.Equal(x.All(), want) {
		t.Fatalf("%d: %+v, not %+v", x.Len(), x.All(), want)
	}
	names, is := []string{"", "none"}, map[string]bool{}
	var redo []Entry
	for _, e := range want {
		names = append(names, e.Object)
		if method.Changes(e.Step.Call, e.Step.Result) {
			redo = append(redo, e)
			is[e.Object] = true
		}
	}
	if got := x.Redo(); !slices.Equal(got, redo) {
		t.Fatalf("Redo: %+v, not %+v", got, redo)
	}
	objects := x.Objects()
	for k, name := range objects {
		if !is[name] || k > 0 && objects[k-1] >= name {
			t.Fatalf("Objects: %q", objects)
		}
	}
	if len(objects) != len(is) {
		t.Fatalf("Objects: %q, not %v", objects, is)
	}
	slices.Sort(names)
	for _, name := range slices.Compact(names) {
		mustSee(t, x, want, name)
	}
	if !slices.Equal(x.All(), want) {
		t.Fatalf("now %+v", x.All())
	}
}

// mustSee: View and Gain of an object.
func mustSee(t *testing.T, x *List, l []Entry, name string) {
	t.Helper()
	for _, s := range bases() {
		was := look(s)
		got := x.View(name, s)
		if want := viewOf(l, name, s); look(got) != look(want) {
			t.Fatalf("View of %q over %s: %s, not %s", name, was, look(got), look(want))
		}
		told := look(got)
		for k := range got.Rows {
			got.Rows[k] = value.Row{Key: "over", Val: "written"}
		}
		if again := x.View(name, s); look(s) != was || look(again) != told {
			t.Fatalf("View of %q over %s: now %s, %s", name, was, look(s), look(again))
		}
	}
	rows, sum := 0, int64(0)
	for _, e := range l {
		if e.Object == name && method.Growth(e.Step.Call, e.Step.Result) == 1 {
			rows++
		}
		if e.Object == name && e.Step.Call.Op == method.Credit {
			sum += e.Step.Call.N
		}
	}
	if gotRows, gotSum := x.Gain(name); gotRows != rows || gotSum != sum {
		t.Fatalf("Gain of %q: %d, %d, not %d, %d", name, gotRows, gotSum, rows, sum)
	}
}

// anyEntry: that may be; often one that changes something.
func anyEntry(r *rand.Rand) Entry {
	text := func() string { return []string{"", "a", "b", "c", fits}[r.Intn(5)] }
	e := Entry{Object: []string{"", "a", "aa", "b", "0123456789abcdef"}[r.Intn(5)]}
	c := method.Call{Op: method.Op(1 + r.Intn(17))}
	switch c.Op {
	case method.Add:
		c.N = int64(r.Uint64()) >> r.Intn(64)
	case method.Credit, method.Debit:
		c.N = 1 + r.Int63n(1<<r.Intn(21))
	case method.Bind:
		c.A, c.B = text(), text()
	case method.Read, method.Count, method.Balance, method.Deq, method.Take:
	default:
		c.A = text()
	}
	e.Step = adt.Step{Call: c, Result: method.Result{Code: 1 + r.Intn(2)}}
	if r.Intn(2) == 0 {
		e.Step.Result.Text = text()
	} else if r.Intn(4) == 0 {
		e.Step.Result.N = int64(r.Uint64()) >> r.Intn(64)
	}
	return e
}

// P15.1: rows of calls against a plain list.
func TestAny(t *testing.T) {
	r := rand.New(rand.NewSource(1))
	full := 0
	for range 200 {
		x, plain := &List{}, []Entry{}
		for range 40 {
			if r.Intn(5) > 0 {
				e := anyEntry(r)
				want := api.OK
				if len(plain) == 12 {
					want = api.ErrFull
					full++
				} else {
					plain = append(plain, e)
				}
				if got := x.Add(e.Object, e.Step); got != want {
					t.Fatalf("Add behind %d: %d", len(plain), got)
				}
			} else {
				n := r.Intn(16) - 2
				stay := min(max(n, 0), len(plain))
				if got := x.Back(n); !slices.Equal(got, plain[stay:]) {
					t.Fatalf("Back %d: %+v, not %+v", n, got, plain[stay:])
				}
				plain = slices.Clone(plain[:stay])
			}
			mustBe(t, x, plain)
		}
	}
	if full < 100 {
		t.Errorf("%d", full)
	}
}

// P15.2: what goes by Back is as if it never was, whatever comes behind it.
func TestNeverWas(t *testing.T) {
	r := rand.New(rand.NewSource(2))
	for range 2000 {
		x, y := &List{}, &List{}
		for range r.Intn(13) {
			e := anyEntry(r)
			x.Add(e.Object, e.Step)
			y.Add(e.Object, e.Step)
		}
		n := x.Len()
		for range 1 + r.Intn(12) {
			e := anyEntry(r)
			x.Add(e.Object, e.Step)
		}
		x.Back(n)
		mustBe(t, x, y.All())
		for range r.Intn(14) {
			e := anyEntry(r)
			if got, want := x.Add(e.Object, e.Step), y.Add(e.Object, e.Step); got != want {
				t.Fatalf("%d, not %d", got, want)
			}
		}
		mustBe(t, x, y.All())
	}
}

// P15.3: the Redo of a list does to a state what all of it does; and what isn't among Objects stays.
func TestRedoDoes(t *testing.T) {
	r := rand.New(rand.NewSource(3))
	changed := 0
	for range 2000 {
		x := &List{}
		for range r.Intn(13) {
			e := anyEntry(r)
			x.Add(e.Object, e.Step)
		}
		redo, objects := listOf(t, x.Redo()...), x.Objects()
		for _, name := range []string{"", "a", "aa", "b", "0123456789abcdef"} {
			for _, s := range bases() {
				all, less := x.View(name, s), redo.View(name, s)
				if look(all) != look(less) {
					t.Fatalf("%+v: %q over %s: %s, not %s", x.All(), name, look(s), look(less), look(all))
				}
				if look(all) != look(s) {
					changed++
				}
				if look(all) != look(s) && !slices.Contains(objects, name) {
					t.Fatalf("%+v: %q changes, not only %q", x.All(), name, objects)
				}
			}
		}
	}
	if changed < 1000 {
		t.Errorf("%d", changed)
	}
}

// P15.4: a list's View is that of its last entries over that of its first ones; its Gain is the sum of theirs.
func TestInTwo(t *testing.T) {
	r := rand.New(rand.NewSource(4))
	for range 1000 {
		x := &List{}
		for range r.Intn(13) {
			e := anyEntry(r)
			x.Add(e.Object, e.Step)
		}
		all := x.All()
		for at := range len(all) + 1 {
			first, last := listOf(t, all[:at]...), listOf(t, all[at:]...)
			for _, name := range []string{"", "a", "aa", "b", "0123456789abcdef"} {
				for _, s := range bases() {
					if got, want := last.View(name, first.View(name, s)), x.View(name, s); look(got) != look(want) {
						t.Fatalf("%+v at %d: %s, not %s", all, at, look(got), look(want))
					}
				}
				rows, sum := x.Gain(name)
				a, b := first.Gain(name)
				c, d := last.Gain(name)
				if rows != a+c || sum != b+d {
					t.Fatalf("%+v at %d: %d, %d; %d, %d; %d, %d", all, at, rows, sum, a, b, c, d)
				}
			}
		}
	}
}

// K3: View changes nothing of a state that it is asked of, also not behind its rows, and shares nothing with it.
func TestViewStays(t *testing.T) {
	r := rand.New(rand.NewSource(5))
	for range 3000 {
		x := &List{}
		for range r.Intn(6) {
			e := anyEntry(r)
			x.Add("o", e.Step)
		}
		for _, s := range bases() {
			room := make([]value.Row, len(s.Rows)+4)
			for k := range room {
				room[k] = value.Row{Key: "mark", Val: "mark"}
			}
			copy(room, s.Rows)
			s.Rows = room[:len(s.Rows)]
			was := slices.Clone(room)
			for _, name := range []string{"o", "none"} {
				got := x.View(name, s)
				said := look(got)
				if !slices.Equal(room, was) {
					t.Fatalf("%+v: %q: now %q", x.All(), name, room)
				}
				for k := range room {
					room[k] = value.Row{Key: "over", Val: "written"}
				}
				if look(got) != said {
					t.Fatalf("%+v: %q: now %s, not %s", x.All(), name, look(got), said)
				}
				copy(room, was)
			}
		}
	}
}
