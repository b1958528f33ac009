package adt

import (
	"armoire/method"
	"armoire/value"
)

// Answers: all that a call may be answered, in a state; the first one is to be preferred.
func Answers(s value.State, c method.Call) []method.Result {
	if c.Op.Kind() != s.Kind {
		return nil
	}
	switch c.Op {
	case method.Take:
		return takes(s)
	case method.Read:
		text, _ := front(s)
		return only(yes(text))
	case method.Deq:
		return only(found(front(s)))
	case method.Look:
		return only(found(bound(s, c.A)))
	case method.Count, method.Balance:
		return only(method.Result{Code: method.Yes, N: s.N})
	case method.Debit:
		return only(whether(s.N >= c.N))
	case method.Remove, method.Has, method.Unbind:
		return only(whether(isThere(s, c.A)))
	case method.Insert, method.Bind:
		return only(whether(!isThere(s, c.A)))
	case method.Write, method.Add, method.Credit, method.Enq, method.Put:
		return only(yes(""))
	default:
		return nil
	}
}

// takes are a Take's: each text once. Those that are the same stand side by side, as a semiqueue's rows rise.
func takes(s value.State) []method.Result {
	if len(s.Rows) == 0 {
		return only(whether(false))
	}
	var l []method.Result
	for at, row := range s.Rows {
		if at == 0 || row.Key != s.Rows[at-1].Key {
			l = append(l, yes(row.Key))
		}
	}
	return l
}

// front is the first text; false: there is none.
func front(s value.State) (string, bool) {
	if len(s.Rows) == 0 {
		return "", false
	}
	return s.Rows[0].Key, true
}

// bound is what stands at a key; false: the key isn't there.
func bound(s value.State, key string) (string, bool) {
	at, there := s.Find(key)
	if !there {
		return "", false
	}
	return s.Rows[at].Val, true
}

// isThere: is there a row of that key?
func isThere(s value.State, key string) bool {
	_, there := s.Find(key)
	return there
}

// only is a list of one answer.
func only(r method.Result) []method.Result {
	return []method.Result{r}
}

// yes is Yes, with a text.
func yes(text string) method.Result {
	return method.Result{Code: method.Yes, Text: text}
}

// found is Yes, with a text, if that is there; else No.
func found(text string, there bool) method.Result {
	if !there {
		return whether(false)
	}
	return yes(text)
}

// whether is a bare Yes, or No.
func whether(is bool) method.Result {
	if is {
		return method.Result{Code: method.Yes}
	}
	return method.Result{Code: method.No}
}
