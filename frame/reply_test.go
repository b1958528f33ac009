package frame

import (
	"math"
	"math/rand"
	"testing"

	"armoire/api"
	"armoire/method"
)

// P24.1, P24.2: replies, the bytes by hand, and back.
func TestReplyBytes(t *testing.T) {
	for want, r := range map[string]Reply{
		"\x00\x00":                                 {},
		"\x00\x01\x01":                             {N: 1},
		"\x01\x13\x00":                             {Err: api.ErrName},
		"\x01\x0e\x02\x01\x2c":                     {Err: api.ErrCycle, N: 300},
		"\x00\x05\xff\xff\xff\xff\xff":             {N: most - 1},
		"\x01\x0f\x06\x01\x00\x00\x00\x00\x00":     {Err: api.ErrLate, N: most},
		"\x00\x00\x01\x01\x00\x00":                 {Result: bare},
		"\x00\x00\x01\x02\x00\x00":                 {Result: no},
		"\x00\x01\x01\x01\x01\x01\x01x\x00":        {N: 1, Result: method.Result{Code: method.Yes, Text: "x"}},
		"\x00\x00\x01\x01\x01\x18" + fits + "\x00": {Result: method.Result{Code: method.Yes, Text: fits}},
		"\x01\x07\x00\x01\x02\x00\x08\xff\xff\xff\xff\xff\xff\xff\xff": {Err: api.ErrFull, Result: method.Result{Code: method.No, N: math.MinInt64}},
		"\x00\x06\x01\x00\x00\x00\x00\x00\x01\x01\x00\x01\x01":         {N: most, Result: method.Result{Code: method.Yes, N: -1}},
	} {
		if s := r.Text(); s != seal(want) || replyBytes(r) != want {
			t.Errorf("%+v: %x, not %x", r, s, seal(want))
		}
		if x, e := ParseReply(seal(want)); x != r || e != api.OK || r.Check() != api.OK {
			t.Errorf("%x: %+v, %d, %d", want, x, e, r.Check())
		}
	}
}

// P24.1, P24.2: each error, with and without a Result, there and back; errors and numbers at their ends and beyond them.
func TestReplyEach(t *testing.T) {
	results := map[method.Result]api.Errno{
		{}:                                    api.OK,
		bare:                                  api.OK,
		no:                                    api.OK,
		{Code: method.Yes, Text: fits}:        api.OK,
		{Code: method.No, N: math.MaxInt64}:   api.OK,
		{Code: 3}:                             api.ErrKind,
		{Code: -1}:                            api.ErrKind,
		{Text: "a"}:                           api.ErrKind,
		{N: 1}:                                api.ErrKind,
		{Code: method.Yes, Text: long}:        api.ErrBig,
		{Code: method.Yes, Text: long, N: 1}:  api.ErrBig,
		{Code: method.Yes, Text: "a", N: -1}:  api.ErrForm,
		{Code: math.MaxInt, Text: long, N: 1}: api.ErrKind,
	}
	for _, err := range []int{math.MinInt, -2, -1, 0, 1, 2, 3, 4, 5, 6, 7, 8, 9, 10, 11, 12, 13, 14, 15, 16, 17, 18, 19, 20, 21, math.MaxInt} {
		for _, n := range []int{math.MinInt, -1, 0, 1, most - 1, most, most + 1, math.MaxInt} {
			for result, want := range results {
				r := Reply{Err: api.Errno(err), N: n, Result: result}
				if err < 0 || err > 19 || n < 0 || n > most {
					want = api.ErrArg
				}
				if e := r.Check(); e != want {
					t.Errorf("%+v: %d, not %d", r, e, want)
				}
				if want != api.OK {
					continue
				}
				s := r.Text()
				if x, e := ParseReply(s); s != seal(replyBytes(r)) || x != r || e != api.OK {
					t.Errorf("%+v: %x, %+v, %d", r, s, x, e)
				}
			}
		}
	}
}

// mustReply: ParseReply answers what the other reader does; what is read may be, and is written the same.
func mustReply(t *testing.T, s string) api.Errno {
	t.Helper()
	r, e := ParseReply(s)
	want, f := replySays(s)
	if r != want || e != f {
		t.Fatalf("%x: %+v, %d, not %+v, %d", s, r, e, want, f)
	}
	if e == api.OK && (r.Check() != api.OK || r.Text() != s) {
		t.Fatalf("%x: %+v: %d, written as %x", s, r, r.Check(), r.Text())
	}
	return e
}

// P24.1: ParseReply: each error, ahead of those that come behind it.
func TestReplyErrors(t *testing.T) {
	for name, x := range map[string]struct {
		s    string
		want api.Errno
	}{
		"nothing":                            {"", api.ErrEnd},
		"one byte":                           {"\x00", api.ErrEnd},
		"two bytes":                          {"\x00\x00", api.ErrEnd},
		"three bytes":                        {"\x00\x00\x00", api.ErrEnd},
		"a sum alone":                        {"\x00\x00\x00\x00", api.ErrEnd},
		"another sum alone":                  {"\x01\x00\x00\x00", api.ErrSum},
		"another sum":                        {"\x00\x00\x00\x00\x00\x00", api.ErrSum},
		"another sum, and an error 20":       {"\x00\x00\x00\x00\x01\x14\x00", api.ErrSum},
		"the error of nine bytes":            {seal("\x09"), api.ErrForm},
		"the error with noughts":             {seal("\x01\x00\x00"), api.ErrForm},
		"error 19":                           {seal("\x01\x13\x00"), api.OK},
		"error 20":                           {seal("\x01\x14\x00"), api.ErrBig},
		"error 20, then nothing":             {seal("\x01\x14"), api.ErrBig},
		"error 2^64 - 1":                     {seal("\x08\xff\xff\xff\xff\xff\xff\xff\xff\x00"), api.ErrBig},
		"no N":                               {seal("\x00"), api.ErrEnd},
		"N wants its byte":                   {seal("\x00\x01"), api.ErrEnd},
		"N 2^40":                             {seal("\x00\x06\x01\x00\x00\x00\x00\x00"), api.OK},
		"N 2^40 + 1":                         {seal("\x00\x06\x01\x00\x00\x00\x00\x01"), api.ErrBig},
		"N 2^40 + 1, then a bad answer":      {seal("\x00\x06\x01\x00\x00\x00\x00\x01\x09"), api.ErrBig},
		"an answer of no code":               {seal("\x00\x00\x00\x00\x00"), api.ErrKind},
		"an answer of no code, more behind":  {seal("\x00\x00\x00\x00\x00\x00"), api.ErrKind},
		"an answer's code alone":             {seal("\x00\x00\x01\x01"), api.ErrEnd},
		"an answer of no code, then nothing": {seal("\x00\x00\x00"), api.ErrEnd},
		"an answer of code 3":                {seal("\x00\x00\x01\x03\x00\x00"), api.ErrBig},
		"an answer, its text of 25":          {seal("\x00\x00\x01\x01\x01\x19" + long + "\x00"), api.ErrBig},
		"an answer with both":                {seal("\x00\x00\x01\x01\x01\x01a\x01\x02"), api.ErrForm},
		"an answer, its number wanting":      {seal("\x00\x00\x01\x01\x00"), api.ErrEnd},
		"an answer, something behind":        {seal("\x00\x00\x01\x01\x00\x00\x00"), api.ErrForm},
		"an answer behind another one":       {seal("\x00\x00\x01\x01\x00\x00\x01\x01\x00\x00"), api.ErrForm},
		"a reply's sum of another's":         {seal("\x00\x00")[:4] + "\x00\x01\x01", api.ErrSum},
	} {
		if r, e := ParseReply(x.s); e != x.want || e != api.OK && r != (Reply{}) {
			t.Errorf("%s: %+v, %d, not %d", name, r, e, x.want)
		}
		mustReply(t, x.s)
	}
}

// P24.2: there and back; two replies that aren't the same have other bytes.
func TestReplyThereAndBack(t *testing.T) {
	r := rand.New(rand.NewSource(5))
	was := map[string]Reply{}
	for range 20000 {
		x := anyReply(r)
		s := x.Text()
		if x.Check() != api.OK || s != seal(replyBytes(x)) {
			t.Fatalf("%+v: %d, %x", x, x.Check(), s)
		}
		if y, e := ParseReply(s); y != x || e != api.OK {
			t.Fatalf("%+v: %+v, %d", x, y, e)
		}
		if y, ok := was[s]; ok && y != x {
			t.Fatalf("%+v, %+v: %x", x, y, s)
		}
		was[s] = x
	}
}

// P24.1: replies cut at each place, with more behind, and with each byte bent in each way: another sum.
func TestReplyBent(t *testing.T) {
	r := rand.New(rand.NewSource(6))
	for range 80 {
		s := anyReply(r).Text()
		for at := range s {
			want := api.ErrSum
			if at < 4 {
				want = api.ErrEnd
			}
			if e := mustReply(t, s[:at]); e != want {
				t.Fatalf("%x: %d", s[:at], e)
			}
			b := []byte(s)
			for by := 1; by < 256; by++ {
				b[at] = s[at] ^ byte(by)
				if e := mustReply(t, string(b)); e != api.ErrSum {
					t.Fatalf("%x: %d", b, e)
				}
			}
		}
		if e := mustReply(t, s+"\x00"); e != api.ErrSum {
			t.Fatalf("%x: %d", s, e)
		}
	}
}

// P24.1, P24.2: the same, sealed again; of what is cut behind Err and N a reply without a Result is left.
func TestReplySealed(t *testing.T) {
	r := rand.New(rand.NewSource(7))
	seen := map[api.Errno]int{}
	for range 80 {
		x := anyReply(r)
		s := replyBytes(x)
		bare := len(replyBytes(Reply{Err: x.Err, N: x.N}))
		for at := range s {
			want := api.ErrEnd
			if at == bare {
				want = api.OK
			}
			if e := mustReply(t, seal(s[:at])); e != want {
				t.Fatalf("%x: %d", s[:at], e)
			}
			b := []byte(s)
			for by := 1; by < 256; by++ {
				b[at] = s[at] ^ byte(by)
				seen[mustReply(t, seal(string(b)))]++
			}
		}
		for b := range 256 {
			e := mustReply(t, seal(s+string([]byte{byte(b)})))
			if e == api.OK || len(s) > bare && e != api.ErrForm {
				t.Fatalf("%x and %x: %d", s, b, e)
			}
		}
	}
	for _, e := range []api.Errno{api.OK, api.ErrEnd, api.ErrForm, api.ErrBig, api.ErrKind} {
		if seen[e] < 20 {
			t.Errorf("%d: %d", e, seen[e])
		}
	}
}

// P24.1, P24.2: any bytes: all of up to two behind a sum, of some bytes up to seven, and at chance; and without a sum.
func TestReplyAny(t *testing.T) {
	for a := range 256 {
		mustReply(t, seal(string([]byte{byte(a)})))
		mustReply(t, string([]byte{byte(a)}))
		for b := range 256 {
			mustReply(t, seal(string([]byte{byte(a), byte(b)})))
			mustReply(t, string([]byte{byte(a), byte(b)}))
		}
	}
	grow("\x00\x01\x02\x13a\x14\x09", 7, func(s string) { mustReply(t, seal(s)) })
	grow("\x00\x01\x28\xff", 6, func(s string) { mustReply(t, s) })
	r := rand.New(rand.NewSource(8))
	for range 40000 {
		mustReply(t, seal(bend(r, replyBytes(anyReply(r)))))
		mustReply(t, bend(r, seal(replyBytes(anyReply(r)))))
	}
}
