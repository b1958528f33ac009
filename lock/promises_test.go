package lock

import (
	"math/rand"
	"slices"
	"testing"

	"armoire/commute"
)

// anyTable: behind calls at chance.
func anyTable(t *testing.T, r *rand.Rand) *pair {
	q := &pair{t: t, r: r, x: New(), told: map[string]int{}}
	for range r.Intn(60) {
		q.act()
	}
	return q
}

// P16.2: who has no Blockers conflicts with nothing that is held by others.
func TestNoBlockers(t *testing.T) {
	r := rand.New(rand.NewSource(2))
	none, some := 0, 0
	for range 2000 {
		q := anyTable(t, r)
		for _, name := range names {
			for txn := range txns + 1 {
				s := q.anyStep(name)
				clash := slices.ContainsFunc(q.x.Held(name), func(x Lock) bool { return x.Txn != txn && commute.Conflict(s, x.Step) })
				free := len(q.x.Blockers(name, txn, s)) == 0
				if free && clash {
					t.Fatalf("%q, %d: %+v, and %+v", name, txn, s, q.x.Held(name))
				}
				if free && len(q.x.Held(name)) > 0 {
					none++
				}
				if clash {
					some++
				}
			}
		}
	}
	if none < 1000 || some < 1000 {
		t.Errorf("%d, %d", none, some)
	}
}

// mustAgree: no steps of two transactions that are held conflict.
func mustAgree(t *testing.T, x *Table) {
	t.Helper()
	for _, name := range x.Objects() {
		l := x.Held(name)
		for at, a := range l {
			for _, b := range l[:at] {
				if a.Txn != b.Txn && commute.Conflict(a.Step, b.Step) {
					t.Fatalf("%q: %+v, and %+v", name, a, b)
				}
			}
		}
	}
}

// P16.2: where only those are granted that have no Blockers, nothing that is held conflicts.
func TestGrantedAgree(t *testing.T) {
	r := rand.New(rand.NewSource(3))
	granted, queued, woken := 0, 0, 0
	for range 300 {
		q := &pair{t: t, r: r, x: New()}
		for range 60 {
			name, txn := names[r.Intn(4)], r.Intn(txns)
			s := q.anyStep(name)
			if len(q.x.Blockers(name, txn, s)) == 0 {
				q.x.Grant(name, txn, s)
				granted++
			} else {
				q.x.Queue(name, txn, s)
				queued++
			}
			if r.Intn(6) == 0 {
				woken += wake(q.x, r.Intn(txns))
			}
			mustAgree(t, q.x)
		}
	}
	if granted < 1000 || queued < 1000 || woken < 100 {
		t.Errorf("%d, %d, %d", granted, queued, woken)
	}
}

// wake: a transaction is gone; who has no Blockers any more is granted: so many.
func wake(x *Table, txn int) int {
	n := 0
	x.Release(txn)
	for _, name := range x.Objects() {
		for _, w := range x.Waiting(name) {
			if len(x.Blockers(name, w.Txn, w.Step)) == 0 {
				x.Grant(name, w.Txn, w.Step)
				n++
			}
		}
	}
	return n
}

// P16.3: who waits first has Blockers among those that hold alone.
func TestFirst(t *testing.T) {
	r := rand.New(rand.NewSource(4))
	some := 0
	for range 2000 {
		q := anyTable(t, r)
		for _, name := range q.x.Objects() {
			l := q.x.Waiting(name)
			if len(l) == 0 {
				continue
			}
			for _, s := range append(pool(name), l[0].Step) {
				for _, id := range q.x.Blockers(name, l[0].Txn, s) {
					some++
					if !slices.ContainsFunc(q.x.Held(name), func(x Lock) bool { return x.Txn == id && commute.Conflict(s, x.Step) }) {
						t.Fatalf("%q: %d holds nothing in the way of %+v", name, id, s)
					}
				}
			}
		}
	}
	if some < 1000 {
		t.Errorf("%d", some)
	}
}
