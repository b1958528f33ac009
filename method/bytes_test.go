package method

import (
	"math"
	"math/rand"
	"slices"
	"testing"

	"armoire/api"
	"armoire/codec"
)

// number: as bytes: how many, and these, the highest first.
func number(n uint64) string {
	var digits []byte
	for ; n > 0; n /= 256 {
		digits = append([]byte{byte(n % 256)}, digits...)
	}
	return string([]byte{byte(len(digits))}) + string(digits)
}

// whole: a whole number, as bytes: of 2n, or -2n - 1.
func whole(n int64) string {
	if n >= 0 {
		return number(2 * uint64(n))
	}
	return number(2*uint64(-(n+1)) + 1)
}

// text: as bytes.
func text(s string) string {
	return number(uint64(len(s))) + s
}

// callBytes, resultBytes: written by hand.
func callBytes(c Call) string {
	return number(uint64(c.Op)) + text(c.A) + text(c.B) + whole(c.N)
}

func resultBytes(r Result) string {
	return number(uint64(r.Code)) + text(r.Text) + whole(r.N)
}

// reader takes bytes from the front, up to the first error.
type reader struct {
	s   string
	err api.Errno
}

func (r *reader) fail(e api.Errno) uint64 {
	if r.err == api.OK {
		r.err = e
	}
	r.s = ""
	return 0
}

func (r *reader) number(most uint64) uint64 {
	if r.err != api.OK {
		return 0
	}
	if r.s == "" {
		return r.fail(api.ErrEnd)
	}
	size := int(r.s[0])
	if size > 8 {
		return r.fail(api.ErrForm)
	}
	if len(r.s) <= size {
		return r.fail(api.ErrEnd)
	}
	if size > 0 && r.s[1] == 0 {
		return r.fail(api.ErrForm)
	}
	n := uint64(0)
	for k := range size {
		n = n*256 + uint64(r.s[k+1])
	}
	r.s = r.s[size+1:]
	if n > most {
		return r.fail(api.ErrBig)
	}
	return n
}

func (r *reader) whole() int64 {
	n := r.number(math.MaxUint64)
	if n%2 == 1 {
		return -int64(n/2) - 1
	}
	return int64(n / 2)
}

func (r *reader) text() string {
	size := int(r.number(24))
	if r.err == api.OK && size > len(r.s) {
		r.fail(api.ErrEnd)
	}
	if r.err != api.OK {
		return ""
	}
	s := r.s[:size]
	r.s = r.s[size:]
	return s
}

// callSays: ReadCall's answer, by another reader: what is left is its s.
func callSays(s string) (Call, *reader) {
	r := &reader{s: s}
	c := Call{Op: Op(r.number(17))}
	c.A = r.text()
	c.B = r.text()
	c.N = r.whole()
	if r.err == api.OK && firstOfCall(c) != api.OK {
		r.fail(firstOfCall(c))
	}
	if r.err != api.OK {
		return Call{}, r
	}
	return c, r
}

// resultSays: ReadResult's answer likewise.
func resultSays(s string) (Result, *reader) {
	r := &reader{s: s}
	x := Result{Code: int(r.number(2))}
	x.Text = r.text()
	x.N = r.whole()
	if r.err == api.OK && firstOfResult(x) != api.OK {
		r.fail(firstOfResult(x))
	}
	if r.err != api.OK {
		return Result{}, r
	}
	return x, r
}

// mustRead: ReadCall and ReadResult answer what the other reader does, and leave the same; what is read is written the same.
func mustRead(t *testing.T, s string) (api.Errno, api.Errno) {
	t.Helper()
	i := codec.Read(s)
	c := ReadCall(i)
	want, r := callSays(s)
	if c != want || i.Err() != r.err || i.Len() != len(r.s) {
		t.Fatalf("ReadCall(%x): %+v, %d, %d left, not %+v, %d, %d", s, c, i.Err(), i.Len(), want, r.err, len(r.s))
	}
	if i.Err() == api.OK {
		var o codec.Out
		c.Put(&o)
		if o.Text() != s[:len(s)-i.Len()] || c.Check() != api.OK {
			t.Fatalf("ReadCall(%x): written as %x", s, o.Text())
		}
	}
	j := codec.Read(s)
	x := ReadResult(j)
	other, q := resultSays(s)
	if x != other || j.Err() != q.err || j.Len() != len(q.s) {
		t.Fatalf("ReadResult(%x): %+v, %d, %d left, not %+v, %d, %d", s, x, j.Err(), j.Len(), other, q.err, len(q.s))
	}
	if j.Err() == api.OK {
		var o codec.Out
		x.Put(&o)
		if o.Text() != s[:len(s)-j.Len()] || x.Check() != api.OK {
			t.Fatalf("ReadResult(%x): written as %x", s, o.Text())
		}
	}
	return i.Err(), j.Err()
}

// P12.1, P12.2: the chapter's example, and others, there and back.
func TestCallBytes(t *testing.T) {
	for want, c := range map[string]Call{
		"\x01\x08\x01\x01a\x00\x00":                            {Op: Insert, A: "a"},
		"\x01\x01\x00\x00\x00":                                 {Op: Read},
		"\x01\x02\x01\x18" + fits + "\x00\x00":                 {Op: Write, A: fits},
		"\x01\x03\x00\x00\x01\x01":                             {Op: Add, N: -1},
		"\x01\x03\x00\x00\x08\xff\xff\xff\xff\xff\xff\xff\xff": {Op: Add, N: math.MinInt64},
		"\x01\x03\x00\x00\x08\xff\xff\xff\xff\xff\xff\xff\xfe": {Op: Add, N: math.MaxInt64},
		"\x01\x05\x00\x00\x01\x02":                             {Op: Credit, N: 1},
		"\x01\x06\x00\x00\x03\x20\x00\x00":                     {Op: Debit, N: 1 << 20},
		"\x01\x0b\x01\x02\x00\xff\x01\x01b\x00":                {Op: Bind, A: "\x00\xff", B: "b"},
		"\x01\x0b\x00\x01\x18" + fits + "\x00":                 {Op: Bind, B: fits},
		"\x01\x11\x00\x00\x00":                                 {Op: Take},
	} {
		var o codec.Out
		c.Put(&o)
		if o.Text() != want || callBytes(c) != want {
			t.Errorf("%+v: %x, not %x", c, o.Text(), want)
		}
		i := codec.Read(want)
		if back := ReadCall(i); back != c || i.End() != api.OK {
			t.Errorf("%x: %+v, %d", want, back, i.Err())
		}
	}
}

// P12.1, P12.2: answers, there and back.
func TestResultBytes(t *testing.T) {
	for want, r := range map[string]Result{
		"\x01\x01\x00\x00":                                 {Code: Yes},
		"\x01\x02\x00\x00":                                 {Code: No},
		"\x01\x01\x01\x02hi\x00":                           {Code: Yes, Text: "hi"},
		"\x01\x01\x01\x18" + fits + "\x00":                 {Code: Yes, Text: fits},
		"\x01\x01\x00\x02\x02\x58":                         {Code: Yes, N: 300},
		"\x01\x02\x00\x08\xff\xff\xff\xff\xff\xff\xff\xff": {Code: No, N: math.MinInt64},
	} {
		var o codec.Out
		r.Put(&o)
		if o.Text() != want || resultBytes(r) != want {
			t.Errorf("%+v: %x, not %x", r, o.Text(), want)
		}
		i := codec.Read(want)
		if back := ReadResult(i); back != r || i.End() != api.OK {
			t.Errorf("%x: %+v, %d", want, back, i.Err())
		}
	}
}

// goodText, anyNumber: at chance.
func goodText(r *rand.Rand) string {
	b := make([]byte, []int{0, 1, 2, 23, 24}[r.Intn(5)])
	for k := range b {
		b[k] = "\x00\x01ab\x7f\x80\xff"[r.Intn(7)]
	}
	return string(b)
}

func anyNumber(r *rand.Rand) int64 {
	return int64(r.Uint64()) >> r.Intn(64)
}

// goodCall, goodResult: one that may be, at chance.
func goodCall(r *rand.Rand) Call {
	c := Call{Op: Op(1 + r.Intn(17))}
	if says(haveA, c.Op) {
		c.A = goodText(r)
	}
	if says(haveB, c.Op) {
		c.B = goodText(r)
	}
	if c.Op == Add {
		c.N = anyNumber(r)
	} else if says(haveN, c.Op) {
		c.N = 1 + r.Int63n(1<<20)
	}
	return c
}

func goodResult(r *rand.Rand) Result {
	x := Result{Code: 1 + r.Intn(2)}
	switch r.Intn(3) {
	case 0:
		x.Text = goodText(r)
	case 1:
		x.N = anyNumber(r)
	}
	return x
}

// P12.2: there and back; behind other bytes, and ahead of others; what is ahead, and behind, stays.
func TestThereAndBack(t *testing.T) {
	r := rand.New(rand.NewSource(1))
	for range 20000 {
		c, x := goodCall(r), goodResult(r)
		if c.Check() != api.OK || x.Check() != api.OK {
			t.Fatalf("%+v, %+v: %d, %d", c, x, c.Check(), x.Check())
		}
		var o codec.Out
		o.S("ahead")
		c.Put(&o)
		x.Put(&o)
		c.Put(&o)
		o.N(7)
		if o.Text() != text("ahead")+callBytes(c)+resultBytes(x)+callBytes(c)+number(7) {
			t.Fatalf("%+v, %+v: %x", c, x, o.Text())
		}
		i := codec.Read(o.Text())
		i.S(5)
		if d, y, f := ReadCall(i), ReadResult(i), ReadCall(i); d != c || y != x || f != c || i.N(7) != 7 || i.End() != api.OK {
			t.Fatalf("%+v, %+v: %+v, %+v, %+v, %d", c, x, d, y, f, i.Err())
		}
		mustRead(t, callBytes(c))
		mustRead(t, resultBytes(x))
	}
}

// P12.2: two that aren't the same have other bytes, and none's are another's front.
func TestOneSpelling(t *testing.T) {
	r := rand.New(rand.NewSource(2))
	var calls, results []string
	was := map[string]Call{}
	for range 3000 {
		c := goodCall(r)
		var o, p codec.Out
		c.Put(&o)
		if d, ok := was[o.Text()]; ok && d != c {
			t.Fatalf("%+v, %+v: %x", c, d, o.Text())
		}
		was[o.Text()] = c
		calls = append(calls, o.Text())
		goodResult(r).Put(&p)
		results = append(results, p.Text())
	}
	for _, l := range [][]string{calls, results} {
		slices.Sort(l)
		l = slices.Compact(l)
		for k, s := range l[1:] {
			if len(s) > len(l[k]) && s[:len(l[k])] == l[k] {
				t.Fatalf("%x, %x", l[k], s)
			}
		}
	}
}

// P12.1, P12.2: all texts of up to two bytes, and of some bytes up to seven.
func TestReadShort(t *testing.T) {
	mustRead(t, "")
	for a := range 256 {
		mustRead(t, string([]byte{byte(a)}))
		for b := range 256 {
			mustRead(t, string([]byte{byte(a), byte(b)}))
		}
	}
	letters := "\x00\x01\x02\x05\x08\x0b\x09"
	calls, results := map[api.Errno]int{}, map[api.Errno]int{}
	var grow func(s string)
	grow = func(s string) {
		e, f := mustRead(t, s)
		calls[e]++
		results[f]++
		if len(s) < 7 {
			for k := range len(letters) {
				grow(s + letters[k:k+1])
			}
		}
	}
	grow("")
	for _, e := range []api.Errno{api.OK, api.ErrEnd, api.ErrForm, api.ErrBig, api.ErrKind} {
		if calls[e] < 20 || results[e] < 20 {
			t.Errorf("%d: %d, %d", e, calls[e], results[e])
		}
	}
	if calls[api.ErrArg] < 20 {
		t.Errorf("%v", calls)
	}
}

// P12.1, P12.2: bytes of calls and answers with some turned, cut, or more, and bytes at chance.
func TestReadAny(t *testing.T) {
	r := rand.New(rand.NewSource(3))
	for range 60000 {
		c := goodCall(r)
		if r.Intn(3) == 0 { // also such as may not be
			c = Call{Op(r.Intn(20)), goodText(r), goodText(r), anyNumber(r)}
		}
		b := []byte(callBytes(c))
		if r.Intn(2) == 0 {
			b = []byte(resultBytes(Result{r.Intn(4), goodText(r), anyNumber(r) * int64(r.Intn(2))}))
		}
		for range r.Intn(3) {
			if len(b) == 0 {
				break
			}
			switch at := r.Intn(len(b)); r.Intn(4) {
			case 0:
				b[at] ^= 1 << r.Intn(8)
			case 1:
				b = b[:at]
			case 2:
				b = append(b, byte(r.Intn(256)))
			default:
				b[at] = byte(r.Intn(30))
			}
		}
		mustRead(t, string(b))
	}
}

// P12.1: ReadCall: each error, ahead of those that come behind it.
func TestReadCallErrors(t *testing.T) {
	nine := "\x09"
	for name, x := range map[string]struct {
		s    string
		want api.Errno
	}{
		"nothing":                         {"", api.ErrEnd},
		"the op wants its byte":           {"\x01", api.ErrEnd},
		"the op of nine bytes":            {nine, api.ErrForm},
		"the op with noughts":             {"\x02\x00\x01", api.ErrForm},
		"op 17":                           {"\x01\x11\x00\x00\x00", api.OK},
		"op 18":                           {"\x01\x12\x00\x00\x00", api.ErrBig},
		"op 18, then nothing":             {"\x01\x12", api.ErrBig},
		"op 2^64 - 1":                     {"\x08\xff\xff\xff\xff\xff\xff\xff\xff", api.ErrBig},
		"no op, then nothing":             {"\x00", api.ErrEnd},
		"no op, A of 25":                  {"\x00" + text(long), api.ErrBig},
		"no op":                           {"\x00\x00\x00\x00", api.ErrKind},
		"no op, with A":                   {"\x00" + text("a") + "\x00\x00", api.ErrKind},
		"A of 25":                         {"\x01\x02" + text(long), api.ErrBig},
		"A of 25, of an op that has none": {"\x01\x01" + text(long) + "\x00\x00", api.ErrBig},
		"A of 24, and wanting":            {"\x01\x02\x01\x18" + fits[1:], api.ErrEnd},
		"B wanting":                       {"\x01\x0b" + text("a"), api.ErrEnd},
		"B of 25":                         {"\x01\x0b" + text("a") + text(long), api.ErrBig},
		"A that it hasn't, B of 25":       {"\x01\x01" + text("a") + text(long), api.ErrBig},
		"A that it hasn't, B wanting":     {"\x01\x01" + text("a"), api.ErrEnd},
		"A that it hasn't, N of nine":     {"\x01\x01" + text("a") + "\x00" + nine, api.ErrForm},
		"A that it hasn't":                {"\x01\x01" + text("a") + "\x00\x00", api.ErrForm},
		"B that it hasn't":                {"\x01\x08\x00" + text("b") + "\x00", api.ErrForm},
		"N that it hasn't":                {"\x01\x08\x00\x00\x01\x02", api.ErrForm},
		"N wanting":                       {"\x01\x08\x00\x00", api.ErrEnd},
		"N with noughts":                  {"\x01\x03\x00\x00\x01\x00", api.ErrForm},
		"credit 0":                        {"\x01\x05\x00\x00\x00", api.ErrArg},
		"credit 0, and A":                 {"\x01\x05" + text("a") + "\x00\x00", api.ErrForm},
		"credit of 1 too much":            {"\x01\x05\x00\x00\x03\x20\x00\x02", api.ErrArg},
		"debit of less than 0":            {"\x01\x06\x00\x00\x01\x01", api.ErrArg},
		"something behind it":             {"\x01\x01\x00\x00\x00" + nine, api.OK},
	} {
		i := codec.Read(x.s)
		c := ReadCall(i)
		if i.Err() != x.want || x.want != api.OK && (c != Call{} || i.Len() != 0) {
			t.Errorf("%s: %+v, %d", name, c, i.Err())
		}
		mustRead(t, x.s)
	}
}

// P12.1: ReadResult likewise.
func TestReadResultErrors(t *testing.T) {
	nine := "\x09"
	for name, x := range map[string]struct {
		s    string
		want api.Errno
	}{
		"nothing":                      {"", api.ErrEnd},
		"the code of nine bytes":       {nine, api.ErrForm},
		"the code with noughts":        {"\x02\x00\x01", api.ErrForm},
		"code 3":                       {"\x01\x03", api.ErrBig},
		"code 2^64 - 1":                {"\x08\xff\xff\xff\xff\xff\xff\xff\xff", api.ErrBig},
		"no code, then nothing":        {"\x00", api.ErrEnd},
		"no code, a text of 25":        {"\x00" + text(long) + "\x00", api.ErrBig},
		"no code":                      {"\x00\x00\x00", api.ErrKind},
		"no code, both":                {"\x00" + text("a") + "\x01\x02", api.ErrKind},
		"a text of 25":                 {"\x01\x01" + text(long) + "\x00", api.ErrBig},
		"a text of 24, and wanting":    {"\x01\x01\x01\x18" + fits[1:], api.ErrEnd},
		"a text of 24":                 {"\x01\x02" + text(fits) + "\x00", api.OK},
		"the number wanting":           {"\x01\x01\x00", api.ErrEnd},
		"the number with noughts":      {"\x01\x01\x00\x01\x00", api.ErrForm},
		"both":                         {"\x01\x01" + text("a") + "\x01\x02", api.ErrForm},
		"a text, the number wanting":   {"\x01\x01" + text("a") + "\x01", api.ErrEnd},
		"something behind it":          {"\x01\x01\x00\x00" + nine, api.OK},
		"a number of 0 written longer": {"\x01\x01\x00\x01\x00\x00", api.ErrForm},
	} {
		i := codec.Read(x.s)
		r := ReadResult(i)
		if i.Err() != x.want || x.want != api.OK && (r != Result{} || i.Len() != 0) {
			t.Errorf("%s: %+v, %d", name, r, i.Err())
		}
		mustRead(t, x.s)
	}
}

// P12.1: of bytes with an error nothing more is read, and that error stays.
func TestReadBehindError(t *testing.T) {
	for _, e := range []api.Errno{api.ErrEnd, api.ErrForm, api.ErrBad, api.ErrName} {
		i := codec.Read(callBytes(Call{Op: Insert, A: "a"}))
		i.Fail(e)
		if c := ReadCall(i); c != (Call{}) || i.Err() != e {
			t.Errorf("%+v, %d", c, i.Err())
		}
		if r := ReadResult(i); r != (Result{}) || i.Err() != e || i.End() != e {
			t.Errorf("%+v, %d", r, i.Err())
		}
	}
	// A call that may not be: what stands behind it isn't read any more.
	i := codec.Read(callBytes(Call{Op: Credit}) + resultBytes(Result{Code: Yes}))
	if c, r := ReadCall(i), ReadResult(i); c != (Call{}) || r != (Result{}) || i.End() != api.ErrArg {
		t.Errorf("%+v, %+v, %d", c, r, i.Err())
	}
}
