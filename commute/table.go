package commute

import (
	"armoire/adt"
	"armoire/method"
)

// upsets: do two of one type conflict, by what x changes? Two that change nothing never do.
func upsets(x, y adt.Step) bool {
	if !method.Changes(x.Call, x.Result) {
		return false
	}
	switch x.Call.Op {
	case method.Write:
		return textBy(y) != x.Call.A
	case method.Add:
		return y.Call.Op == method.Count
	case method.Credit:
		return y.Call.Op == method.Balance || y.Call.Op == method.Debit && refused(y)
	case method.Debit:
		return spendsToo(x, y)
	case method.Insert, method.Remove, method.Bind, method.Unbind:
		return y.Call.A == x.Call.A && wasThere(y) == wasThere(x)
	case method.Enq:
		return y.Call.Op == method.Enq && y.Call.A != x.Call.A || y.Call.Op == method.Deq && refused(y)
	case method.Put:
		return y.Call.Op == method.Take && refused(y)
	default:
		// A Deq or a Take: the text that went may have been the only one.
		return y.Call.Op == x.Call.Op && y.Result == x.Result
	}
}

// refused: was a step answered No?
func refused(x adt.Step) bool {
	return x.Result.Code == method.No
}

// textBy is what a register has behind a Read or a Write.
func textBy(x adt.Step) string {
	if x.Call.Op == method.Write {
		return x.Call.A
	}
	return x.Result.Text
}

// spendsToo: does y, of an account, need money that the Debit x took?
func spendsToo(x, y adt.Step) bool {
	switch y.Call.Op {
	case method.Balance:
		// With less than x took there is no state in which both may be.
		return y.Result.N >= x.Call.N
	case method.Debit:
		return !refused(y)
	default:
		return false
	}
}

// wasThere: was A there ahead of a step of a set or a directory, by its answer?
func wasThere(x adt.Step) bool {
	if x.Call.Op == method.Insert || x.Call.Op == method.Bind {
		return refused(x)
	}
	return !refused(x)
}
