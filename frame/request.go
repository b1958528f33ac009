package frame

import (
	"armoire/api"
	"armoire/codec"
	"armoire/method"
)

// The kinds of requests.
const (
	Begin   = 1
	Call    = 2 // Object, Call
	Save    = 3
	Back    = 4 // to N
	Commit  = 5
	Abort   = 6
	Outcome = 7 // of N
)

// Request is what a client asks.
type Request struct {
	Kind, N int
	Object  string
	Call    method.Call
}

// hasCall: does it ask an object something?
func (q Request) hasCall() bool {
	return q.Kind == Call
}

// hasNumber: does it name a mark, or a transaction?
func (q Request) hasNumber() bool {
	return q.Kind == Back || q.Kind == Outcome
}

// Check: may it be asked?
func (q Request) Check() api.Errno {
	asks := q.Object != "" || q.Call != method.Call{}
	switch {
	case q.Kind < Begin || q.Kind > Outcome:
		return api.ErrKind
	case asks && !q.hasCall(), q.N != 0 && !q.hasNumber():
		return api.ErrForm
	case len(q.Object) > api.MaxName:
		return api.ErrBig
	case !isNumber(q.N):
		return api.ErrArg
	case q.hasCall():
		return q.Call.Check()
	}
	return api.OK
}

// Text: a request's bytes.
func (q Request) Text() string {
	var o codec.Out
	o.N(q.Kind)
	if q.hasCall() {
		o.S(q.Object)
		q.Call.Put(&o)
	}
	if q.hasNumber() {
		o.N(q.N)
	}
	return sealed(o.Text())
}

// ParseRequest: and back.
func ParseRequest(s string) (Request, api.Errno) {
	i := unsealed(s)
	q := Request{Kind: i.N(Outcome)}
	if q.Kind == 0 {
		i.Fail(api.ErrKind)
	}
	if q.hasCall() {
		q.Object = i.S(api.MaxName)
		q.Call = method.ReadCall(i)
	}
	if q.hasNumber() {
		q.N = i.N(api.MaxStamp)
	}
	if err := i.End(); err != api.OK {
		return Request{}, err
	}
	return q, api.OK
}
