package frame

import (
	"math"
	"math/rand"
	"testing"

	"armoire/api"
	"armoire/method"
)

// P24.1: the kinds, and the outcomes, have the chapter's numbers.
func TestNumbers(t *testing.T) {
	for k, n := range []int{Begin, Call, Save, Back, Commit, Abort, Outcome} {
		if n != k+1 {
			t.Errorf("%d: %d", k+1, n)
		}
	}
	for k, n := range []int{Unknown, Live, Committed, Aborted} {
		if n != k {
			t.Errorf("%d: %d", k, n)
		}
	}
}

// P24.1: the chapter's example, the sum written by hand.
func TestExample(t *testing.T) {
	if s := (Request{Kind: Begin}).Text(); s != "\x28\x13\xc5\x2f\x01\x01" || s != seal("\x01\x01") {
		t.Errorf("%x", s)
	}
}

// P24.1, P24.2: requests of each kind, the bytes by hand, and back.
func TestRequestBytes(t *testing.T) {
	for want, q := range map[string]Request{
		"\x01\x01": {Kind: Begin},
		"\x01\x03": {Kind: Save},
		"\x01\x05": {Kind: Commit},
		"\x01\x06": {Kind: Abort},
		"\x01\x02\x01\x01a\x01\x08\x01\x01b\x00\x00":                            {Kind: Call, Object: "a", Call: method.Call{Op: method.Insert, A: "b"}},
		"\x01\x02\x00\x01\x0b\x01\x01q\x01\x05queue\x00":                        {Kind: Call, Call: method.Call{Op: method.Bind, A: "q", B: "queue"}},
		"\x01\x02\x01\x10" + name16 + "\x01\x11\x00\x00\x00":                    {Kind: Call, Object: name16, Call: method.Call{Op: method.Take}},
		"\x01\x02\x01\x03Q\x00\xff\x01\x05\x00\x00\x03\x20\x00\x00":             {Kind: Call, Object: "Q\x00\xff", Call: method.Call{Op: method.Credit, N: 1 << 20}},
		"\x01\x02\x01\x01n\x01\x03\x00\x00\x08\xff\xff\xff\xff\xff\xff\xff\xff": {Kind: Call, Object: "n", Call: method.Call{Op: method.Add, N: math.MinInt64}},
		"\x01\x02\x01\x01d\x01\x0b\x01\x18" + fits + "\x01\x18" + fits + "\x00": {Kind: Call, Object: "d", Call: method.Call{Op: method.Bind, A: fits, B: fits}},
		"\x01\x04\x00":                         {Kind: Back},
		"\x01\x04\x01\x0c":                     {Kind: Back, N: 12},
		"\x01\x04\x06\x01\x00\x00\x00\x00\x00": {Kind: Back, N: most},
		"\x01\x07\x00":                         {Kind: Outcome},
		"\x01\x07\x02\x01\x2c":                 {Kind: Outcome, N: 300},
		"\x01\x07\x05\xff\xff\xff\xff\xff":     {Kind: Outcome, N: most - 1},
		"\x01\x07\x06\x01\x00\x00\x00\x00\x00": {Kind: Outcome, N: most},
	} {
		if s := q.Text(); s != seal(want) || requestBytes(q) != want {
			t.Errorf("%+v: %x, not %x", q, s, seal(want))
		}
		if p, e := ParseRequest(seal(want)); p != q || e != api.OK || q.Check() != api.OK {
			t.Errorf("%x: %+v, %d, %d", want, p, e, q.Check())
		}
	}
}

// P24.1: Check: each error, ahead of those that come behind it; of each kind each field that may not be there, and each number at its ends and beyond them.
func TestRequestCheck(t *testing.T) {
	insert := method.Call{Op: method.Insert, A: "b"}
	for name, x := range map[string]struct {
		q    Request
		want api.Errno
	}{
		"nothing":                            {Request{}, api.ErrKind},
		"kind -1":                            {Request{Kind: -1}, api.ErrKind},
		"kind 8":                             {Request{Kind: 8}, api.ErrKind},
		"the least kind":                     {Request{Kind: math.MinInt}, api.ErrKind},
		"the greatest kind":                  {Request{Kind: math.MaxInt}, api.ErrKind},
		"kind 0, with all":                   {Request{N: -1, Object: name17, Call: insert}, api.ErrKind},
		"kind 8, with all":                   {Request{Kind: 8, N: -1, Object: name17, Call: insert}, api.ErrKind},
		"a call":                             {Request{Kind: Call, Object: "a", Call: insert}, api.OK},
		"a call of the catalog":              {Request{Kind: Call, Call: insert}, api.OK},
		"a name of 16":                       {Request{Kind: Call, Object: name16, Call: insert}, api.OK},
		"a name that may be none":            {Request{Kind: Call, Object: "A-\x00\xff", Call: insert}, api.OK},
		"a name of 17":                       {Request{Kind: Call, Object: name17, Call: insert}, api.ErrBig},
		"a name of 17, no op":                {Request{Kind: Call, Object: name17}, api.ErrBig},
		"a name of 17, a call that is amiss": {Request{Kind: Call, Object: name17, Call: method.Call{Op: method.Credit}}, api.ErrBig},
		"a call, N":                          {Request{Kind: Call, Object: "a", Call: insert, N: 1}, api.ErrForm},
		"a call, N below 0":                  {Request{Kind: Call, Object: "a", Call: insert, N: -1}, api.ErrForm},
		"a call, N, a name of 17":            {Request{Kind: Call, Object: name17, Call: insert, N: 1}, api.ErrForm},
		"a call, N, no op":                   {Request{Kind: Call, Object: "a", N: 1}, api.ErrForm},
		"a call of no op":                    {Request{Kind: Call, Object: "a"}, api.ErrKind},
		"a call of op 18":                    {Request{Kind: Call, Object: "a", Call: method.Call{Op: 18}}, api.ErrKind},
		"a call of op -1":                    {Request{Kind: Call, Object: "a", Call: method.Call{Op: -1}}, api.ErrKind},
		"a call, an argument that it hasn't": {Request{Kind: Call, Object: "a", Call: method.Call{Op: method.Take, A: "b"}}, api.ErrForm},
		"a call, B that it hasn't":           {Request{Kind: Call, Object: "a", Call: method.Call{Op: method.Insert, B: "b"}}, api.ErrForm},
		"a call, N that it hasn't":           {Request{Kind: Call, Object: "a", Call: method.Call{Op: method.Insert, N: 1}}, api.ErrForm},
		"a call, A of 24":                    {Request{Kind: Call, Object: "a", Call: method.Call{Op: method.Insert, A: fits}}, api.OK},
		"a call, A of 25":                    {Request{Kind: Call, Object: "a", Call: method.Call{Op: method.Insert, A: long}}, api.ErrBig},
		"a call, B of 25":                    {Request{Kind: Call, Object: "a", Call: method.Call{Op: method.Bind, B: long}}, api.ErrBig},
		"a credit of 0":                      {Request{Kind: Call, Object: "a", Call: method.Call{Op: method.Credit}}, api.ErrArg},
		"a credit of 1":                      {Request{Kind: Call, Object: "a", Call: method.Call{Op: method.Credit, N: 1}}, api.OK},
		"a debit of 2^20":                    {Request{Kind: Call, Object: "a", Call: method.Call{Op: method.Debit, N: 1 << 20}}, api.OK},
		"a debit of 2^20 + 1":                {Request{Kind: Call, Object: "a", Call: method.Call{Op: method.Debit, N: 1<<20 + 1}}, api.ErrArg},
	} {
		if e := x.q.Check(); e != x.want {
			t.Errorf("%s: %d, not %d", name, e, x.want)
		}
	}
	for _, kind := range []int{Begin, Save, Back, Commit, Abort, Outcome} {
		hasN := kind == Back || kind == Outcome
		for _, n := range []int{math.MinInt, -1, 0, 1, most - 1, most, most + 1, math.MaxInt} {
			want := api.OK
			switch {
			case !hasN && n != 0:
				want = api.ErrForm
			case n < 0, n > most:
				want = api.ErrArg
			}
			if e := (Request{Kind: kind, N: n}).Check(); e != want {
				t.Errorf("kind %d, N %d: %d, not %d", kind, n, e, want)
			}
			for _, q := range []Request{{Object: "a"}, {Object: name17}, {Object: "a", Call: insert}, {Call: insert}, {Call: method.Call{A: "a"}}, {Call: method.Call{B: "b"}}, {Call: method.Call{N: -1}}} {
				q.Kind, q.N = kind, n
				if e := q.Check(); e != api.ErrForm {
					t.Errorf("%+v: %d", q, e)
				}
			}
		}
	}
}

// mustRequest: ParseRequest answers what the other reader does; what is read may be, and is written the same.
func mustRequest(t *testing.T, s string) api.Errno {
	t.Helper()
	q, e := ParseRequest(s)
	want, f := requestSays(s)
	if q != want || e != f {
		t.Fatalf("%x: %+v, %d, not %+v, %d", s, q, e, want, f)
	}
	if e == api.OK && (q.Check() != api.OK || q.Text() != s) {
		t.Fatalf("%x: %+v: %d, written as %x", s, q, q.Check(), q.Text())
	}
	return e
}

// P24.1: ParseRequest: each error, ahead of those that come behind it.
func TestRequestErrors(t *testing.T) {
	insert := "\x01\x08\x01\x01b\x00\x00"
	for name, x := range map[string]struct {
		s    string
		want api.Errno
	}{
		"nothing":                          {"", api.ErrEnd},
		"one byte":                         {"\x00", api.ErrEnd},
		"two bytes":                        {"\x00\x00", api.ErrEnd},
		"three bytes":                      {"\x00\x00\x00", api.ErrEnd},
		"a sum alone":                      {"\x00\x00\x00\x00", api.ErrEnd},
		"another sum alone":                {"\x00\x00\x00\x01", api.ErrSum},
		"another sum":                      {"\x00\x00\x00\x00\x01\x01", api.ErrSum},
		"the sum's highest byte first":     {"\x2f\xc5\x13\x28\x01\x01", api.ErrSum},
		"another sum, and a kind 8":        {"\x00\x00\x00\x00\x01\x08", api.ErrSum},
		"the kind wants its byte":          {seal("\x01"), api.ErrEnd},
		"the kind of nine bytes":           {seal("\x09"), api.ErrForm},
		"the kind with noughts":            {seal("\x02\x00\x01"), api.ErrForm},
		"kind 0":                           {seal("\x00"), api.ErrKind},
		"kind 0, something behind":         {seal("\x00\x01"), api.ErrKind},
		"kind 8":                           {seal("\x01\x08"), api.ErrBig},
		"kind 8, something behind":         {seal("\x01\x08\x01"), api.ErrBig},
		"kind 2^64 - 1":                    {seal("\x08\xff\xff\xff\xff\xff\xff\xff\xff"), api.ErrBig},
		"a Begin, something behind":        {seal("\x01\x01\x00"), api.ErrForm},
		"a Save, something behind":         {seal("\x01\x03\x00"), api.ErrForm},
		"a Commit, something behind":       {seal("\x01\x05\x00"), api.ErrForm},
		"an Abort, something behind":       {seal("\x01\x06x"), api.ErrForm},
		"a Back without N":                 {seal("\x01\x04"), api.ErrEnd},
		"a Back, N with noughts":           {seal("\x01\x04\x01\x00"), api.ErrForm},
		"a Back to 2^40":                   {seal("\x01\x04\x06\x01\x00\x00\x00\x00\x00"), api.OK},
		"a Back to 2^40 + 1":               {seal("\x01\x04\x06\x01\x00\x00\x00\x00\x01"), api.ErrBig},
		"a Back beyond, something behind":  {seal("\x01\x04\x06\x01\x00\x00\x00\x00\x01\x00"), api.ErrBig},
		"a Back, something behind":         {seal("\x01\x04\x00\x00"), api.ErrForm},
		"an Outcome without N":             {seal("\x01\x07"), api.ErrEnd},
		"an Outcome of 2^40":               {seal("\x01\x07\x06\x01\x00\x00\x00\x00\x00"), api.OK},
		"an Outcome of 2^40 + 1":           {seal("\x01\x07\x06\x01\x00\x00\x00\x00\x01"), api.ErrBig},
		"an Outcome of 2^63":               {seal("\x01\x07\x08\x80\x00\x00\x00\x00\x00\x00\x00"), api.ErrBig},
		"an Outcome, something behind":     {seal("\x01\x07\x00\x01"), api.ErrForm},
		"a Call without a name":            {seal("\x01\x02"), api.ErrEnd},
		"a Call with a name alone":         {seal("\x01\x02\x01\x01a"), api.ErrEnd},
		"a name of 16":                     {seal("\x01\x02\x01\x10" + name16 + insert), api.OK},
		"a name of 16, one byte wanting":   {seal("\x01\x02\x01\x10" + name16[1:]), api.ErrEnd},
		"a name of 17":                     {seal("\x01\x02\x01\x11" + name17 + insert), api.ErrBig},
		"a name of 17, nothing there":      {seal("\x01\x02\x01\x11"), api.ErrBig},
		"a name that may be none":          {seal("\x01\x02\x01\x01A" + insert), api.OK},
		"no name":                          {seal("\x01\x02\x00" + insert), api.OK},
		"no op":                            {seal("\x01\x02\x00\x00\x00\x00\x00"), api.ErrKind},
		"no op, something behind":          {seal("\x01\x02\x00\x00\x00\x00\x00\x00"), api.ErrKind},
		"op 18":                            {seal("\x01\x02\x00\x01\x12\x00\x00\x00"), api.ErrBig},
		"a credit of 0":                    {seal("\x01\x02\x00\x01\x05\x00\x00\x00"), api.ErrArg},
		"an argument that it hasn't":       {seal("\x01\x02\x00\x01\x01\x01\x01a\x00\x00"), api.ErrForm},
		"A of 25":                          {seal("\x01\x02\x00\x01\x08\x01\x19" + long + "\x00\x00"), api.ErrBig},
		"a call that wants its last byte":  {seal("\x01\x02\x01\x01a" + insert[:len(insert)-1]), api.ErrEnd},
		"a call, something behind":         {seal("\x01\x02\x01\x01a" + insert + "\x00"), api.ErrForm},
		"a call, an N of none behind":      {seal("\x01\x02\x01\x01a" + insert + "\x01\x05"), api.ErrForm},
		"a request's sum of another's":     {seal("\x01\x01")[:4] + "\x01\x03", api.ErrSum},
		"a request behind another one":     {seal("\x01\x01") + seal("\x01\x01"), api.ErrSum},
		"a request behind another, sealed": {seal("\x01\x01" + seal("\x01\x01")), api.ErrForm},
	} {
		if q, e := ParseRequest(x.s); e != x.want || e != api.OK && q != (Request{}) {
			t.Errorf("%s: %+v, %d, not %d", name, q, e, x.want)
		}
		mustRequest(t, x.s)
	}
}

// P24.2: there and back; two requests that aren't the same have other bytes.
func TestRequestThereAndBack(t *testing.T) {
	r := rand.New(rand.NewSource(1))
	was := map[string]Request{}
	for range 20000 {
		q := anyRequest(r)
		s := q.Text()
		if q.Check() != api.OK || s != seal(requestBytes(q)) {
			t.Fatalf("%+v: %d, %x", q, q.Check(), s)
		}
		if p, e := ParseRequest(s); p != q || e != api.OK {
			t.Fatalf("%+v: %+v, %d", q, p, e)
		}
		if p, ok := was[s]; ok && p != q {
			t.Fatalf("%+v, %+v: %x", q, p, s)
		}
		was[s] = q
	}
}

// P24.1: requests cut at each place, with more behind, and with each byte bent in each way: another sum.
func TestRequestBent(t *testing.T) {
	r := rand.New(rand.NewSource(2))
	for k := range 80 {
		q := Request{Kind: k + 1}
		if q.Check() != api.OK {
			q = anyRequest(r)
		}
		s := q.Text()
		for at := range s {
			want := api.ErrSum
			if at < 4 {
				want = api.ErrEnd
			}
			if e := mustRequest(t, s[:at]); e != want {
				t.Fatalf("%x: %d", s[:at], e)
			}
			b := []byte(s)
			for by := 1; by < 256; by++ {
				b[at] = s[at] ^ byte(by)
				if e := mustRequest(t, string(b)); e != api.ErrSum {
					t.Fatalf("%x: %d", b, e)
				}
			}
		}
		if e := mustRequest(t, s+"\x00"); e != api.ErrSum {
			t.Fatalf("%x: %d", s, e)
		}
	}
}

// P24.1, P24.2: the same, sealed again: what stands behind the sum is looked at by itself.
func TestRequestSealed(t *testing.T) {
	r := rand.New(rand.NewSource(3))
	seen := map[api.Errno]int{}
	for range 80 {
		s := requestBytes(anyRequest(r))
		for at := range s {
			if e := mustRequest(t, seal(s[:at])); e != api.ErrEnd {
				t.Fatalf("%x: %d", s[:at], e)
			}
			b := []byte(s)
			for by := 1; by < 256; by++ {
				b[at] = s[at] ^ byte(by)
				seen[mustRequest(t, seal(string(b)))]++
			}
		}
		for b := range 256 {
			if e := mustRequest(t, seal(s+string([]byte{byte(b)}))); e != api.ErrForm {
				t.Fatalf("%x and %x: %d", s, b, e)
			}
		}
	}
	for _, e := range []api.Errno{api.OK, api.ErrEnd, api.ErrForm, api.ErrBig, api.ErrKind, api.ErrArg} {
		if seen[e] < 20 {
			t.Errorf("%d: %d", e, seen[e])
		}
	}
}

// P24.1, P24.2: any bytes: all of up to two behind a sum, of some bytes up to seven, and at chance; and without a sum.
func TestRequestAny(t *testing.T) {
	for a := range 256 {
		mustRequest(t, seal(string([]byte{byte(a)})))
		mustRequest(t, string([]byte{byte(a)}))
		for b := range 256 {
			mustRequest(t, seal(string([]byte{byte(a), byte(b)})))
			mustRequest(t, string([]byte{byte(a), byte(b)}))
		}
	}
	grow("\x00\x01\x02\x04\x07a\x09", 7, func(s string) { mustRequest(t, seal(s)) })
	grow("\x00\x01\x28\xff", 6, func(s string) { mustRequest(t, s) })
	r := rand.New(rand.NewSource(4))
	for range 40000 {
		mustRequest(t, seal(bend(r, requestBytes(anyRequest(r)))))
		mustRequest(t, bend(r, seal(requestBytes(anyRequest(r)))))
	}
}
