package frame

import (
	"encoding/binary"
	"hash/crc32"
	"math"
	"math/rand"
	"strings"

	"armoire/api"
	"armoire/method"
)

const most = 1 << 40

var (
	fits   = strings.Repeat("x", 24)
	long   = fits + "x"
	name16 = "0123456789abcdef"
	name17 = name16 + "g"
	bare   = method.Result{Code: method.Yes}
	no     = method.Result{Code: method.No}
)

// seal: bytes behind their sum, as the library has it.
func seal(s string) string {
	return string(binary.LittleEndian.AppendUint32(nil, crc32.ChecksumIEEE([]byte(s)))) + s
}

// number, whole, text: as bytes, written by hand.
func number(n uint64) string {
	var digits []byte
	for ; n > 0; n /= 256 {
		digits = append([]byte{byte(n % 256)}, digits...)
	}
	return string([]byte{byte(len(digits))}) + string(digits)
}

func whole(n int64) string {
	if n >= 0 {
		return number(2 * uint64(n))
	}
	return number(2*uint64(-(n+1)) + 1)
}

func text(s string) string {
	return number(uint64(len(s))) + s
}

// requestBytes, replyBytes: what stands behind the sum.
func requestBytes(q Request) string {
	s := number(uint64(q.Kind))
	switch q.Kind {
	case 2:
		s += text(q.Object) + number(uint64(q.Call.Op)) + text(q.Call.A) + text(q.Call.B) + whole(q.Call.N)
	case 4, 7:
		s += number(uint64(q.N))
	}
	return s
}

func replyBytes(r Reply) string {
	s := number(uint64(r.Err)) + number(uint64(r.N))
	if r.Result.Code != 0 || r.Result.Text != "" || r.Result.N != 0 {
		s += number(uint64(r.Result.Code)) + text(r.Result.Text) + whole(r.Result.N)
	}
	return s
}

// reader takes bytes from the front, up to the first error.
type reader struct {
	s   string
	err api.Errno
}

// unseal: a reader of what stands behind the sum.
func unseal(s string) *reader {
	if len(s) < 4 {
		return &reader{err: api.ErrEnd}
	}
	if binary.LittleEndian.Uint32([]byte(s)) != crc32.ChecksumIEEE([]byte(s[4:])) {
		return &reader{err: api.ErrSum}
	}
	return &reader{s: s[4:]}
}

func (r *reader) fail(e api.Errno) uint64 {
	if r.err == api.OK {
		r.err = e
	}
	r.s = ""
	return 0
}

func (r *reader) number(most uint64) uint64 {
	if r.err != api.OK {
		return 0
	}
	if r.s == "" {
		return r.fail(api.ErrEnd)
	}
	size := int(r.s[0])
	if size > 8 {
		return r.fail(api.ErrForm)
	}
	if len(r.s) <= size {
		return r.fail(api.ErrEnd)
	}
	if size > 0 && r.s[1] == 0 {
		return r.fail(api.ErrForm)
	}
	n := uint64(0)
	for k := range size {
		n = n*256 + uint64(r.s[k+1])
	}
	r.s = r.s[size+1:]
	if n > most {
		return r.fail(api.ErrBig)
	}
	return n
}

func (r *reader) whole() int64 {
	n := r.number(math.MaxUint64)
	if n%2 == 1 {
		return -int64(n/2) - 1
	}
	return int64(n / 2)
}

func (r *reader) text(most uint64) string {
	size := int(r.number(most))
	if r.err == api.OK && size > len(r.s) {
		r.fail(api.ErrEnd)
	}
	if r.err != api.OK {
		return ""
	}
	s := r.s[:size]
	r.s = r.s[size:]
	return s
}

// end: what is behind isn't read.
func (r *reader) end() api.Errno {
	if r.err == api.OK && r.s != "" {
		r.fail(api.ErrForm)
	}
	return r.err
}

// check: a call, or an answer, is read; then it is looked at.
func (r *reader) check(e api.Errno) {
	if r.err == api.OK && e != api.OK {
		r.fail(e)
	}
}

// requestSays: ParseRequest's answer, by another reader.
func requestSays(s string) (Request, api.Errno) {
	r := unseal(s)
	q := Request{Kind: int(r.number(7))}
	switch q.Kind {
	case 0:
		r.check(api.ErrKind)
	case 2:
		q.Object = r.text(16)
		q.Call.Op = method.Op(r.number(17))
		q.Call.A = r.text(24)
		q.Call.B = r.text(24)
		q.Call.N = r.whole()
		r.check(q.Call.Check())
	case 4, 7:
		q.N = int(r.number(most))
	}
	if e := r.end(); e != api.OK {
		return Request{}, e
	}
	return q, api.OK
}

// replySays: ParseReply's answer likewise.
func replySays(s string) (Reply, api.Errno) {
	r := unseal(s)
	x := Reply{Err: api.Errno(r.number(19))}
	x.N = int(r.number(most))
	if r.s != "" {
		x.Result.Code = int(r.number(2))
		x.Result.Text = r.text(24)
		x.Result.N = r.whole()
		r.check(x.Result.Check())
	}
	if e := r.end(); e != api.OK {
		return Reply{}, e
	}
	return x, api.OK
}

// anyText: of at most so many bytes, at chance.
func anyText(r *rand.Rand, most int) string {
	b := make([]byte, []int{0, 1, 2, most - 1, most}[r.Intn(5)])
	for k := range b {
		b[k] = "\x00\x01ab\x7f\x80\xff"[r.Intn(7)]
	}
	return string(b)
}

func anyNumber(r *rand.Rand) int64 {
	return int64(r.Uint64()) >> r.Intn(64)
}

// anyN: from 0 to 2^40.
func anyN(r *rand.Rand) int {
	return []int{0, 1, 255, 256, most - 1, most, int(r.Int63n(most))}[r.Intn(7)]
}

// anyCall, anyResult: that may be, at chance.
func anyCall(r *rand.Rand) method.Call {
	c := method.Call{Op: method.Op(1 + r.Intn(17))}
	switch c.Op {
	case method.Add:
		c.N = anyNumber(r)
	case method.Credit, method.Debit:
		c.N = 1 + r.Int63n(1<<20)
	case method.Bind:
		c.A, c.B = anyText(r, 24), anyText(r, 24)
	case method.Read, method.Count, method.Balance, method.Deq, method.Take:
	default:
		c.A = anyText(r, 24)
	}
	return c
}

func anyResult(r *rand.Rand) method.Result {
	x := method.Result{Code: 1 + r.Intn(2)}
	switch r.Intn(3) {
	case 0:
		x.Text = anyText(r, 24)
	case 1:
		x.N = anyNumber(r)
	}
	return x
}

// anyRequest, anyReply: that may be, at chance.
func anyRequest(r *rand.Rand) Request {
	q := Request{Kind: 1 + r.Intn(7)}
	if r.Intn(3) == 0 {
		q.Kind = Call
	}
	switch q.Kind {
	case Call:
		q.Object, q.Call = anyText(r, 16), anyCall(r)
	case Back, Outcome:
		q.N = anyN(r)
	}
	return q
}

func anyReply(r *rand.Rand) Reply {
	x := Reply{Err: api.Errno(r.Intn(20)), N: anyN(r)}
	if r.Intn(2) == 0 {
		x.Result = anyResult(r)
	}
	return x
}

// bend: some bytes turned, cut, or more.
func bend(r *rand.Rand, s string) string {
	b := []byte(s)
	for range r.Intn(3) {
		if len(b) == 0 {
			break
		}
		switch at := r.Intn(len(b)); r.Intn(4) {
		case 0:
			b[at] ^= 1 << r.Intn(8)
		case 1:
			b = b[:at]
		case 2:
			b = append(b, byte(r.Intn(256)))
		default:
			b[at] = byte(r.Intn(30))
		}
	}
	return string(b)
}

// grow: all texts of these letters of up to so many bytes.
func grow(letters string, most int, each func(s string)) {
	var more func(s string)
	more = func(s string) {
		each(s)
		if len(s) < most {
			for k := range len(letters) {
				more(s + letters[k:k+1])
			}
		}
	}
	more("")
}
