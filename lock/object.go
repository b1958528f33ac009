package lock

import "slices"

// object is what is held of one, in the order in which it was granted, and who waits, the first one first.
type object struct {
	held, waiting []Lock
}

// by tells whether a step is a transaction's.
func by(txn int) func(Lock) bool {
	return func(x Lock) bool { return x.Txn == txn }
}

// place is where a transaction waits; -1: it doesn't.
func (o object) place(txn int) int {
	return slices.IndexFunc(o.waiting, by(txn))
}

// ahead are those that wait ahead of a transaction; all, if it doesn't wait: it would be the last one.
func (o object) ahead(txn int) []Lock {
	if at := o.place(txn); at >= 0 {
		return o.waiting[:at]
	}
	return o.waiting
}

// has: does a transaction hold something, or wait?
func (o object) has(txn int) bool {
	return slices.ContainsFunc(o.held, by(txn)) || o.place(txn) >= 0
}

// without is the object less a transaction's; it takes o's memory.
func (o object) without(txn int) object {
	o.held = slices.DeleteFunc(o.held, by(txn))
	o.waiting = slices.DeleteFunc(o.waiting, by(txn))
	return o
}
