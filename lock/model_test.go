package lock

import (
	"fmt"
	"math/rand"
	"slices"
	"testing"

	"armoire/adt"
	"armoire/commute"
	"armoire/method"
)

// line is one of a plain table: a step of a transaction, held or waited for.
type line struct {
	name string
	held bool
	Lock
}

// plain is a table as one list of lines, in the order in which they came.
type plain []line

// waits is where a transaction waits for an object; -1: it doesn't.
func (p plain) waits(name string, txn int) int {
	return slices.IndexFunc(p, func(x line) bool { return x.name == name && !x.held && x.Txn == txn })
}

func (p plain) of(name string, held bool) []Lock {
	var l []Lock
	for _, x := range p {
		if x.name == name && x.held == held {
			l = append(l, x.Lock)
		}
	}
	return l
}

func (p plain) objects() []string {
	var l []string
	for _, name := range names {
		if len(p.of(name, true))+len(p.of(name, false)) > 0 {
			l = append(l, name)
		}
	}
	return l
}

// blocks: does a transaction hold a step of an object that conflicts with s, or wait for one, ahead of a place?
func (p plain) blocks(id int, name string, s adt.Step, end int) bool {
	for at, x := range p {
		if x.name == name && x.Txn == id && (x.held || at < end) && commute.Conflict(s, x.Step) {
			return true
		}
	}
	return false
}

func (p plain) blockers(name string, txn int, s adt.Step) []int {
	end := p.waits(name, txn)
	if end < 0 {
		end = len(p)
	}
	var l []int
	for id := range txns {
		if id != txn && p.blocks(id, name, s, end) {
			l = append(l, id)
		}
	}
	return l
}

func (p plain) pick(name string, txn int, l []adt.Step) int {
	for at, s := range l {
		if len(p.blockers(name, txn, s)) == 0 {
			return at
		}
	}
	return -1
}

func (p plain) unqueue(name string, txn int) (plain, bool) {
	at := p.waits(name, txn)
	if at < 0 {
		return p, false
	}
	return slices.Delete(p, at, at+1), true
}

func (p plain) grant(name string, txn int, s adt.Step) plain {
	p, _ = p.unqueue(name, txn)
	return append(p, line{name, true, Lock{txn, s}})
}

func (p plain) queue(name string, txn int, s adt.Step) plain {
	if at := p.waits(name, txn); at >= 0 {
		p[at].Step = s
		return p
	}
	return append(p, line{name, false, Lock{txn, s}})
}

func (p plain) drop(name string, txn int) (plain, bool) {
	last := -1
	for at, x := range p {
		if x.name == name && x.held && x.Txn == txn {
			last = at
		}
	}
	if last < 0 {
		return p, false
	}
	return slices.Delete(p, last, last+1), true
}

func (p plain) release(txn int) (plain, []string) {
	var l []string
	for _, name := range names {
		if slices.ContainsFunc(p, func(x line) bool { return x.name == name && x.Txn == txn }) {
			l = append(l, name)
		}
	}
	return slices.DeleteFunc(p, func(x line) bool { return x.Txn == txn }), l
}

// names rise; of the last one nothing ever is. There are so many transactions, from 0 on.
var names = []string{"", "a", "a\x00", "b", "none"}

const txns = 6

// pool: steps of few texts and numbers, of types by names; of the first name all, also such as are possible nowhere.
func pool(name string) []adt.Step {
	set := []adt.Step{insert, insertB, has, hasnt, hasntB, step(method.Insert, "a", no), step(method.Remove, "a", bare), step(method.Remove, "b", no)}
	account := []adt.Step{money(method.Credit, 3, bare), money(method.Debit, 2, bare), money(method.Debit, 9, no), money(method.Balance, 0, bare), money(method.Balance, 0, method.Result{Code: method.Yes, N: 2})}
	queue := []adt.Step{step(method.Enq, "a", bare), step(method.Enq, "b", bare), step(method.Deq, "", no), step(method.Deq, "", told("a")), step(method.Deq, "", told("b"))}
	switch name {
	case "a":
		return set
	case "a\x00":
		return account
	case "b":
		return queue
	}
	return slices.Concat(set, account, queue, []adt.Step{money(method.Credit, 3, no), step(method.Deq, "", method.Result{Code: method.No, Text: "a"}), step(method.Insert, "a", method.Result{Code: method.Yes, N: 5})})
}

// pair is a table, and a plain one of which the same was asked.
type pair struct {
	t     *testing.T
	r     *rand.Rand
	x     *Table
	p     plain
	told  map[string]int
	later []func()
}

// anyStep, someSteps: at chance, such as an object is asked.
func (q *pair) anyStep(name string) adt.Step {
	l := pool(name)
	return l[q.r.Intn(len(l))]
}

func (q *pair) someSteps(name string) []adt.Step {
	var l []adt.Step
	for range q.r.Intn(5) {
		l = append(l, q.anyStep(name))
	}
	return l
}

// act asks both one thing, at chance, that changes them.
func (q *pair) act() {
	name, txn := names[q.r.Intn(4)], q.r.Intn(txns)
	s := q.anyStep(name)
	was, is, want := "", false, false
	switch q.r.Intn(12) {
	case 0, 1, 2:
		q.x.Grant(name, txn, s)
		q.p = q.p.grant(name, txn, s)
		was = "Grant"
	case 3, 4, 5, 6:
		if q.p.waits(name, txn) >= 0 {
			was = "Queue anew"
		} else {
			was = "Queue"
		}
		q.x.Queue(name, txn, s)
		q.p = q.p.queue(name, txn, s)
	case 7:
		is = q.x.Unqueue(name, txn)
		q.p, want = q.p.unqueue(name, txn)
		was = fmt.Sprint("Unqueue ", want)
	case 8, 9:
		is = q.x.Drop(name, txn)
		q.p, want = q.p.drop(name, txn)
		was = fmt.Sprint("Drop ", want)
	default:
		if q.r.Intn(2) == 0 {
			return
		}
		var l []string
		got := q.x.Release(txn)
		q.p, l = q.p.release(txn)
		was = fmt.Sprint("Release ", min(len(l), 2))
		if !slices.Equal(got, l) {
			q.t.Fatalf("%s %d: %q, not %q", was, txn, got, l)
		}
	}
	q.told[was]++
	if is != want {
		q.t.Fatalf("%s %q, %d: %v", was, name, txn, is)
	}
}

// look holds all that the table says against the plain one; some of what it said is looked at again later.
func (q *pair) look() {
	if got, want := q.x.Objects(), q.p.objects(); !slices.Equal(got, want) {
		q.t.Fatalf("Objects: %q, not %q", got, want)
	}
	for _, name := range names {
		for _, held := range []bool{true, false} {
			got := q.x.Waiting(name)
			if held {
				got = q.x.Held(name)
			}
			if want := q.p.of(name, held); !slices.Equal(got, want) {
				q.t.Fatalf("%q, held: %v: %+v, not %+v", name, held, got, want)
			}
			stays(q, got, Lock{Txn: -7})
		}
		for txn := range txns + 1 {
			s := q.anyStep(name)
			got, want := q.x.Blockers(name, txn, s), q.p.blockers(name, txn, s)
			if !slices.Equal(got, want) {
				q.t.Fatalf("Blockers %q, %d, %+v: %v, not %v", name, txn, s, got, want)
			}
			q.told[fmt.Sprint("waits: ", q.p.waits(name, txn) >= 0, ", Blockers ", min(len(want), 3))]++
			stays(q, got, -7)
		}
		txn, l := q.r.Intn(txns), q.someSteps(name)
		got, want := q.x.Pick(name, txn, l...), q.p.pick(name, txn, l)
		if got != want {
			q.t.Fatalf("Pick %q, %d, %+v: %d, not %d", name, txn, l, got, want)
		}
		q.told[fmt.Sprint("Pick ", min(want, 1))]++
	}
}

// stays: some answers are kept, and must be then as they are now; they are written over behind that.
func stays[E comparable](q *pair, got []E, other E) {
	if q.r.Intn(40) > 0 {
		return
	}
	was := slices.Clone(got)
	q.later = append(q.later, func() {
		if !slices.Equal(got, was) {
			q.t.Fatalf("what was answered: now %+v, not %+v", got, was)
		}
		for k := range got {
			got[k] = other
		}
		got = append(got, other)
	})
}

// P16.1: each call, behind any calls, against a plain table; what was answered stays, and is nobody's.
func TestAnyCalls(t *testing.T) {
	q := &pair{t: t, r: rand.New(rand.NewSource(1)), told: map[string]int{}}
	for range 200 {
		q.x, q.p = New(), nil
		for range 60 {
			q.act()
			q.look()
			if q.r.Intn(10) == 0 {
				for _, again := range q.later {
					again()
				}
				q.later = nil
			}
		}
	}
	for _, name := range []string{"Grant", "Queue", "Queue anew", "Unqueue true", "Unqueue false", "Drop true", "Drop false", "Release 0", "Release 1", "Release 2", "Pick -1", "Pick 0", "Pick 1",
		"waits: true, Blockers 0", "waits: true, Blockers 1", "waits: true, Blockers 2", "waits: true, Blockers 3", "waits: false, Blockers 0", "waits: false, Blockers 1", "waits: false, Blockers 2", "waits: false, Blockers 3"} {
		if q.told[name] < 50 {
			t.Errorf("%s: %d", name, q.told[name])
		}
	}
}
