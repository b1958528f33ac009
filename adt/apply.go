package adt

import (
	"armoire/method"
	"armoire/value"
)

// Apply: the state behind a call that was answered so.
func Apply(s value.State, c method.Call, r method.Result) value.State {
	if c.Op.Kind() != s.Kind || !method.Changes(c, r) {
		return s.Clone()
	}
	switch c.Op {
	case method.Write:
		return written(s, c.A)
	case method.Add, method.Credit:
		return plus(s, c.N)
	case method.Debit:
		return plus(s, -c.N)
	case method.Insert, method.Bind, method.Enq, method.Put:
		return s.With(value.Row{Key: c.A, Val: c.B})
	case method.Remove, method.Unbind:
		return without(s, c.A)
	default:
		// A Deq or a Take: it doesn't name what goes, its answer does.
		return without(s, r.Text)
	}
}

// written is a register with another text: "" is no row.
func written(s value.State, text string) value.State {
	s.Rows = nil
	if text == "" {
		return s
	}
	return s.With(value.Row{Key: text})
}

// plus is a state with so much more; the number goes round.
func plus(s value.State, n int64) value.State {
	s = s.Clone()
	s.N += n
	return s
}

// without is a state less the first row of that key, if there is one.
func without(s value.State, key string) value.State {
	at, there := s.Find(key)
	if !there {
		return s.Clone()
	}
	return s.Without(at)
}
