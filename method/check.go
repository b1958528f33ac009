package method

import (
	"armoire/api"
	"armoire/codec"
)

// Check: may it be asked?
func (c Call) Check() api.Errno {
	has := c.Op.facts()
	switch {
	case has.kind == 0:
		return api.ErrKind
	case c.A != "" && !has.a, c.B != "" && !has.b, c.N != 0 && !has.n:
		return api.ErrForm
	case len(c.A) > api.MaxText, len(c.B) > api.MaxText:
		return api.ErrBig
	case c.Op.isMoney() && (c.N < 1 || c.N > MostN):
		return api.ErrArg
	}
	return api.OK
}

// isMoney: does money go by it, of which there is a least and a most?
func (o Op) isMoney() bool {
	return o == Credit || o == Debit
}

// Put: a call, behind other bytes.
func (c Call) Put(o *codec.Out) {
	o.N(int(c.Op)).S(c.A, c.B).I(c.N)
}

// ReadCall: and back, of the front of bytes.
func ReadCall(i *codec.In) Call {
	c := Call{Op: Op(i.N(int(Last))), A: i.S(api.MaxText), B: i.S(api.MaxText), N: i.I()}
	// An error that i has already stays: then what Check says of zeros is no matter.
	i.Fail(c.Check())
	if i.Err() != api.OK {
		return Call{}
	}
	return c
}

// Check: may it be an answer, of any call?
func (r Result) Check() api.Errno {
	switch {
	case r.Code != Yes && r.Code != No:
		return api.ErrKind
	case len(r.Text) > api.MaxText:
		return api.ErrBig
	case r.Text != "" && r.N != 0:
		return api.ErrForm
	}
	return api.OK
}

// Put: an answer, behind other bytes.
func (r Result) Put(o *codec.Out) {
	o.N(r.Code).S(r.Text).I(r.N)
}

// ReadResult: and back, of the front of bytes.
func ReadResult(i *codec.In) Result {
	r := Result{Code: i.N(No), Text: i.S(api.MaxText), N: i.I()}
	i.Fail(r.Check())
	if i.Err() != api.OK {
		return Result{}
	}
	return r
}
