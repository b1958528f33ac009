package frame

import (
	"armoire/api"
	"armoire/codec"
	"armoire/method"
)

// lastErr is the greatest error that there is.
const lastErr = api.ErrName

// Reply is what a client is answered: an error, a number, what an object answered.
type Reply struct {
	Err    api.Errno
	N      int
	Result method.Result
}

// The outcomes of a transaction.
const (
	Unknown   = 0
	Live      = 1
	Committed = 2
	Aborted   = 3
)

// hasResult: did an object answer something? No answer of one is zero.
func (r Reply) hasResult() bool {
	return r.Result != method.Result{}
}

// Check: may it be an answer?
func (r Reply) Check() api.Errno {
	switch {
	case r.Err < api.OK || r.Err > lastErr, !isNumber(r.N):
		return api.ErrArg
	case r.hasResult():
		return r.Result.Check()
	}
	return api.OK
}

// Text: a reply's bytes.
func (r Reply) Text() string {
	var o codec.Out
	o.N(int(r.Err), r.N)
	if r.hasResult() {
		r.Result.Put(&o)
	}
	return sealed(o.Text())
}

// ParseReply: and back.
func ParseReply(s string) (Reply, api.Errno) {
	i := unsealed(s)
	r := Reply{Err: api.Errno(i.N(int(lastErr))), N: i.N(api.MaxStamp)}
	if i.Len() > 0 {
		r.Result = method.ReadResult(i)
	}
	if err := i.End(); err != api.OK {
		return Reply{}, err
	}
	return r, api.OK
}
