package intent

import (
	"math"
	"math/rand"
	"strings"
	"testing"

	"armoire/adt"
	"armoire/api"
	"armoire/codec"
	"armoire/method"
)

// bytesOf: an entry's.
func bytesOf(e Entry) string {
	var o codec.Out
	e.Put(&o)
	return o.Text()
}

var name16 = "0123456789abcdef"

// P15.1: the bytes, by hand, and back.
func TestBytes(t *testing.T) {
	for want, e := range map[string]Entry{
		"\x01\x01a" + "\x01\x05\x00\x00\x01\x0e" + "\x01\x01\x00\x00":                                                          {"a", money(method.Credit, 7, bare)},
		"\x00" + "\x01\x0b\x01\x01a\x01\x03set\x00" + "\x01\x02\x00\x00":                                                       {"", adt.Step{Call: method.Call{Op: method.Bind, A: "a", B: "set"}, Result: no}},
		"\x01\x10" + name16 + "\x01\x11\x00\x00\x00" + "\x01\x01\x01\x18" + fits + "\x00":                                      {name16, step(method.Take, "", told(fits))},
		"\x01\x02\x00\xff" + "\x01\x08\x01\x18" + fits + "\x00\x00" + "\x01\x02\x00\x00":                                       {"\x00\xff", step(method.Insert, fits, no)},
		"\x01\x01c" + "\x01\x03\x00\x00\x08\xff\xff\xff\xff\xff\xff\xff\xff" + "\x01\x01\x00\x00":                              {"c", money(method.Add, math.MinInt64, bare)},
		"\x01\x01c" + "\x01\x04\x00\x00\x00" + "\x01\x01\x00\x08\xff\xff\xff\xff\xff\xff\xff\xfe":                              {"c", money(method.Count, 0, method.Result{Code: method.Yes, N: math.MaxInt64})},
		"\x01\x01r" + "\x01\x01\x00\x00\x00" + "\x01\x01\x00\x00":                                                              {"r", step(method.Read, "", bare)},
		"\x01\x01d" + "\x01\x0b\x01\x18" + fits + "\x01\x18" + fits + "\x00" + "\x01\x01\x00\x00":                              {"d", adt.Step{Call: method.Call{Op: method.Bind, A: fits, B: fits}, Result: bare}},
		"\x01\x01q" + "\x01\x0e\x01\x01\x00\x00\x00" + "\x01\x01\x00\x00":                                                      {"q", step(method.Enq, "\x00", bare)},
		"\x01\x01x" + "\x01\x06\x00\x00\x03\x20\x00\x00" + "\x01\x02\x01\x01t\x00" /* may be an answer, though of no Debit */ : {"x", money(method.Debit, 1<<20, method.Result{Code: method.No, Text: "t"})},
	} {
		if got := bytesOf(e); got != want {
			t.Errorf("%+v: %x, not %x", e, got, want)
		}
		i := codec.Read(want)
		if got := Read(i); got != e || i.End() != api.OK {
			t.Errorf("%x: %+v, %d", want, got, i.Err())
		}
		var o codec.Out
		o.U(300)
		e.Put(&o)
		if o.Text() != "\x02\x01\x2c"+want {
			t.Errorf("%+v: behind others: %x", e, o.Text())
		}
		e.Put(&o)
		i = codec.Read(o.Text() + "rest")
		if n, one, two := i.U(), Read(i), Read(i); n != 300 || one != e || two != e || i.Err() != api.OK || i.Len() != 4 {
			t.Errorf("%x: %d, %+v, %+v, %d left", want, n, one, two, i.Len())
		}
	}
}

// P15.1: Read: each error, ahead of those that come behind it.
func TestReadErrors(t *testing.T) {
	call, answer := "\x01\x08\x01\x01a\x00\x00", "\x01\x01\x00\x00"
	for name, x := range map[string]struct {
		s    string
		want api.Errno
	}{
		"nothing":                            {"", api.ErrEnd},
		"the name of nine bytes of length":   {"\x09" + call, api.ErrForm},
		"the name's length with noughts":     {"\x02\x00\x01a" + call + answer, api.ErrForm},
		"a name of 17":                       {"\x01\x11" + name16 + "x" + call + answer, api.ErrBig},
		"a name of 17, then nothing":         {"\x01\x11", api.ErrBig},
		"a name of 16, one byte wanting":     {"\x01\x10" + name16[1:], api.ErrEnd},
		"a name of 16":                       {"\x01\x10" + name16 + call + answer, api.OK},
		"no name":                            {"\x00" + call + answer, api.OK},
		"a name alone":                       {"\x01\x01a", api.ErrEnd},
		"a name and a call":                  {"\x01\x01a" + call, api.ErrEnd},
		"no op":                              {"\x01\x01a" + "\x00\x00\x00\x00" + answer, api.ErrKind},
		"no op, then a bad answer":           {"\x01\x01a" + "\x00\x00\x00\x00" + "\x01\x07", api.ErrKind},
		"op 18":                              {"\x01\x01a" + "\x01\x12\x00\x00\x00" + answer, api.ErrBig},
		"a call that may not be":             {"\x01\x01a" + "\x01\x05\x00\x00\x00" + answer, api.ErrArg},
		"a call that may not be, no answer":  {"\x01\x01a" + "\x01\x05\x00\x00\x00", api.ErrArg},
		"an argument that it hasn't":         {"\x01\x01a" + "\x01\x01\x01\x01a\x00\x00" + answer, api.ErrForm},
		"A of 25":                            {"\x01\x01a" + "\x01\x08\x01\x19" + fits + "x\x00\x00" + answer, api.ErrBig},
		"no code":                            {"\x01\x01a" + call + "\x00\x00\x00", api.ErrKind},
		"code 3":                             {"\x01\x01a" + call + "\x01\x03\x00\x00", api.ErrBig},
		"an answer's text of 25":             {"\x01\x01a" + call + "\x01\x01\x01\x19" + fits + "x\x00", api.ErrBig},
		"an answer with both":                {"\x01\x01a" + call + "\x01\x01\x01\x01a\x01\x02", api.ErrForm},
		"an answer, its number wanting":      {"\x01\x01a" + call + "\x01\x01\x00", api.ErrEnd},
		"an answer, its number with noughts": {"\x01\x01a" + call + "\x01\x01\x00\x01\x00", api.ErrForm},
		"something behind it":                {"\x01\x01a" + call + answer + "\x09", api.OK},
	} {
		i := codec.Read(x.s)
		e := Read(i)
		if i.Err() != x.want || x.want != api.OK && (e != Entry{} || i.Len() != 0) {
			t.Errorf("%s: %+v, %d, %d left", name, e, i.Err(), i.Len())
		}
		mustRead(t, x.s)
	}
}

// P15.1: of bytes with an error nothing more is read, and that error stays.
func TestReadBehindError(t *testing.T) {
	for _, err := range []api.Errno{api.ErrEnd, api.ErrForm, api.ErrBad, api.ErrName} {
		i := codec.Read(bytesOf(some()[0]))
		i.Fail(err)
		if e := Read(i); e != (Entry{}) || i.Err() != err {
			t.Errorf("%+v, %d", e, i.Err())
		}
	}
	i := codec.Read("\x01\x01a\x01\x05\x00\x00\x00\x01\x01\x00\x00" + bytesOf(some()[0]))
	if e, f := Read(i), Read(i); e != (Entry{}) || f != (Entry{}) || i.End() != api.ErrArg {
		t.Errorf("%+v, %+v, %d", e, f, i.Err())
	}
}

// mustRead: Read answers what a name, a call and an answer are, read each by itself; what is read is written the same.
func mustRead(t *testing.T, s string) api.Errno {
	t.Helper()
	var want Entry
	rest, err := s, api.OK
	part := func(read func(i *codec.In)) {
		i := codec.Read(rest)
		if err == api.OK {
			read(i)
			err, rest = i.Err(), rest[len(rest)-i.Len():]
		}
	}
	part(func(i *codec.In) { want.Object = i.S(16) })
	part(func(i *codec.In) { want.Step.Call = method.ReadCall(i) })
	part(func(i *codec.In) { want.Step.Result = method.ReadResult(i) })
	if err != api.OK {
		want, rest = Entry{}, ""
	}
	i := codec.Read(s)
	if got := Read(i); got != want || i.Err() != err || i.Len() != len(rest) {
		t.Fatalf("%x: %+v, %d, %d left, not %+v, %d, %d", s, got, i.Err(), i.Len(), want, err, len(rest))
	}
	if err == api.OK && bytesOf(want) != s[:len(s)-len(rest)] {
		t.Fatalf("%x: written as %x", s, bytesOf(want))
	}
	return err
}

// P15.1: bytes of entries there and back; with some turned, cut, or more; and bytes at chance.
func TestReadAny(t *testing.T) {
	r := rand.New(rand.NewSource(6))
	told := map[api.Errno]int{}
	for range 60000 {
		e := anyEntry(r)
		e.Object = strings.Repeat("n", r.Intn(17))
		b := []byte(bytesOf(e))
		if err := mustRead(t, string(b)+"more"[:r.Intn(5)]); err != api.OK {
			t.Fatalf("%+v: %d", e, err)
		}
		for range 1 + r.Intn(3) {
			if len(b) == 0 {
				break
			}
			switch at := r.Intn(len(b)); r.Intn(4) {
			case 0:
				b[at] ^= 1 << r.Intn(8)
			case 1:
				b = b[:at]
			case 2:
				b = append(b, byte(r.Intn(256)))
			default:
				b[at] = byte(r.Intn(30))
			}
		}
		told[mustRead(t, string(b))]++
	}
	for range 20000 {
		b := make([]byte, r.Intn(20))
		for k := range b {
			b[k] = []byte{0, 1, 2, 5, 8, 9, byte(r.Intn(256))}[r.Intn(7)]
		}
		told[mustRead(t, string(b))]++
	}
	for _, err := range []api.Errno{api.OK, api.ErrEnd, api.ErrForm, api.ErrBig, api.ErrKind} {
		if told[err] < 20 {
			t.Errorf("%d: %d", err, told[err])
		}
	}
}
