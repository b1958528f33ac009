package value

import (
	"math"
	"math/rand"
	"strings"
	"testing"

	"armoire/api"
)

// number: as bytes: how many, and these, the highest first.
func number(n uint64) string {
	var digits []byte
	for ; n > 0; n /= 256 {
		digits = append([]byte{byte(n % 256)}, digits...)
	}
	return string([]byte{byte(len(digits))}) + string(digits)
}

// sign: a whole number as a number: 2n, or -2n - 1.
func sign(n int64) uint64 {
	if n >= 0 {
		return 2 * uint64(n)
	}
	return 2*uint64(-(n+1)) + 1
}

// bytesOf: a state's bytes, written by hand.
func bytesOf(s State) string {
	b := number(uint64(s.Kind)) + number(sign(s.N)) + number(uint64(len(s.Rows)))
	for _, r := range s.Rows {
		b += number(uint64(len(r.Key))) + r.Key + number(uint64(len(r.Val))) + r.Val
	}
	return b
}

// reader takes bytes from the front, up to the first error.
type reader struct {
	s   string
	err api.Errno
}

func (r *reader) fail(e api.Errno) uint64 {
	if r.err == api.OK {
		r.err = e
	}
	r.s = ""
	return 0
}

func (r *reader) number(most uint64) uint64 {
	if r.err != api.OK {
		return 0
	}
	if r.s == "" {
		return r.fail(api.ErrEnd)
	}
	size := int(r.s[0])
	if size > 8 {
		return r.fail(api.ErrForm)
	}
	if len(r.s) <= size {
		return r.fail(api.ErrEnd)
	}
	if size > 0 && r.s[1] == 0 {
		return r.fail(api.ErrForm)
	}
	n := uint64(0)
	for k := range size {
		n = n*256 + uint64(r.s[k+1])
	}
	r.s = r.s[size+1:]
	if n > most {
		return r.fail(api.ErrBig)
	}
	return n
}

func (r *reader) text() string {
	size := int(r.number(24))
	if r.err != api.OK {
		return ""
	}
	if size > len(r.s) {
		r.fail(api.ErrEnd)
		return ""
	}
	s := r.s[:size]
	r.s = r.s[size:]
	return s
}

// says: Parse's answer, by another reader.
func says(text string) (State, api.Errno) {
	r := &reader{s: text}
	s := State{Kind: int(r.number(7))}
	n := r.number(math.MaxUint64)
	s.N = int64(n / 2)
	if n%2 == 1 {
		s.N = -s.N - 1
	}
	many := r.number(8)
	for k := uint64(0); k < many && r.err == api.OK; k++ {
		key := r.text()
		s.Rows = append(s.Rows, Row{key, r.text()})
	}
	if r.err == api.OK && r.s != "" {
		r.err = api.ErrForm
	}
	if r.err == api.OK {
		r.err = first(s)
	}
	if r.err != api.OK {
		return State{}, r.err
	}
	return s, api.OK
}

// mustParse: Parse answers what the other reader does; what is read is written the same.
func mustParse(t *testing.T, text string) api.Errno {
	t.Helper()
	s, e := Parse(text)
	want, f := says(text)
	if e != f || look(s) != look(want) {
		t.Fatalf("Parse(%x): %+v, %d, not %+v, %d", text, s, e, want, f)
	}
	if e != api.OK && !isZero(s) {
		t.Fatalf("Parse(%x): %+v beside %d", text, s, e)
	}
	if e == api.OK && (s.Text() != text || s.Check() != api.OK) {
		t.Fatalf("Parse(%x): %x, %d", text, s.Text(), s.Check())
	}
	return e
}

// P11.1: the chapter's example, and one of each type.
func TestText(t *testing.T) {
	for want, s := range map[string]State{
		"\x01\x04\x00\x01\x02\x01\x01a\x00\x01\x01b\x00": {Kind: Set, Rows: rows("a", "b")},
		"\x01\x01\x00\x00":                                  {Kind: Register},
		"\x01\x01\x00\x01\x01\x01\x02hi\x00":                {Kind: Register, Rows: rows("hi")},
		"\x01\x02\x00\x00":                                  {Kind: Counter},
		"\x01\x02\x01\x01\x00":                              {Kind: Counter, N: -1},
		"\x01\x02\x08\xff\xff\xff\xff\xff\xff\xff\xff\x00":  {Kind: Counter, N: math.MinInt64},
		"\x01\x02\x08\xff\xff\xff\xff\xff\xff\xff\xfe\x00":  {Kind: Counter, N: math.MaxInt64},
		"\x01\x03\x02\x02\x58\x00":                          {Kind: Account, N: 300},
		"\x01\x05\x00\x01\x01\x00\x01\x01v":                 {Kind: Directory, Rows: []Row{{"", "v"}}},
		"\x01\x06\x00\x01\x02\x01\x01z\x00\x00\x00":         {Kind: Queue, Rows: rows("z", "")},
		"\x01\x07\x00\x01\x02\x00\x00\x00\x00":              {Kind: Semi, Rows: rows("", "")},
		"\x01\x06\x00\x01\x01\x01\x18" + fits + "\x00":      {Kind: Queue, Rows: rows(fits)},
		"\x01\x06\x00\x01\x08" + strings.Repeat("\x00", 16): {Kind: Queue, Rows: make([]Row, 8)},
	} {
		if got := s.Text(); got != want || bytesOf(s) != want {
			t.Errorf("%+v: %x, not %x", s, got, want)
		}
		if back, e := Parse(want); e != api.OK || !back.Same(s) || look(back) != look(s) {
			t.Errorf("%x: %+v, %d", want, back, e)
		}
	}
}

// P11.2: there and back.
func TestThereAndBack(t *testing.T) {
	r := rand.New(rand.NewSource(9))
	for range 20000 {
		s := good(r)
		text := s.Text()
		if text != bytesOf(s) {
			t.Fatalf("%+v: %x", s, text)
		}
		if back, e := Parse(text); e != api.OK || !back.Same(s) || look(back) != look(s) {
			t.Fatalf("%+v: %+v, %d", s, back, e)
		}
		mustParse(t, text)
	}
}

// P11.1, P11.2: all texts of up to two bytes, and of some bytes up to seven.
func TestParseShort(t *testing.T) {
	mustParse(t, "")
	for a := range 256 {
		mustParse(t, string([]byte{byte(a)}))
		for b := range 256 {
			mustParse(t, string([]byte{byte(a), byte(b)}))
		}
	}
	letters := "\x00\x01\x02\x04\x06\x09"
	ok := 0
	var grow func(text string)
	grow = func(text string) {
		if mustParse(t, text) == api.OK {
			ok++
		}
		if len(text) < 7 {
			for k := range len(letters) {
				grow(text + letters[k:k+1])
			}
		}
	}
	grow("")
	if ok < 20 {
		t.Errorf("%d", ok)
	}
}

// P11.1: Parse: each error, ahead of those that come behind it.
func TestParseErrors(t *testing.T) {
	text := func(s string) string { return number(uint64(len(s))) + s }
	for name, x := range map[string]struct {
		s    string
		want api.Errno
	}{
		"nothing":                           {"", api.ErrEnd},
		"kind wants its byte":               {"\x01", api.ErrEnd},
		"kind with noughts":                 {"\x02\x00\x01", api.ErrForm},
		"kind of nine bytes":                {"\x09", api.ErrForm},
		"kind 8":                            {"\x01\x08", api.ErrBig},
		"kind 2^64 - 1":                     {"\x08\xff\xff\xff\xff\xff\xff\xff\xff", api.ErrBig},
		"kind alone":                        {"\x01\x04", api.ErrEnd},
		"kind 0":                            {"\x00\x00\x00", api.ErrKind},
		"kind 0, something left":            {"\x00\x00\x00\x00", api.ErrForm},
		"kind 0, bytes wanting":             {"\x00\x00", api.ErrEnd},
		"number with noughts":               {"\x01\x02\x01\x00\x00", api.ErrForm},
		"rows wanting":                      {"\x01\x04\x00", api.ErrEnd},
		"nine rows":                         {"\x01\x04\x00\x01\x09", api.ErrBig},
		"nine rows of a number":             {"\x01\x02\x00\x01\x09", api.ErrBig},
		"key wanting":                       {"\x01\x04\x00\x01\x01", api.ErrEnd},
		"key too long":                      {"\x01\x04\x00\x01\x01\x01\x19" + long, api.ErrBig},
		"key wants bytes":                   {"\x01\x04\x00\x01\x01\x01\x02a", api.ErrEnd},
		"val wanting":                       {"\x01\x04\x00\x01\x01" + text("a"), api.ErrEnd},
		"val too long":                      {"\x01\x05\x00\x01\x01" + text("a") + text(long), api.ErrBig},
		"val wants bytes":                   {"\x01\x05\x00\x01\x01" + text("a") + "\x01\x05v", api.ErrEnd},
		"something left":                    {"\x01\x04\x00\x00x", api.ErrForm},
		"left, ahead of Check":              {"\x01\x01\x00\x01\x02" + text("a") + "\x00" + text("b") + "\x00x", api.ErrForm},
		"register of two":                   {"\x01\x01\x00\x01\x02" + text("a") + "\x00" + text("b") + "\x00", api.ErrFull},
		"register of nothing":               {"\x01\x01\x00\x01\x01\x00\x00", api.ErrForm},
		"counter with a row":                {"\x01\x02\x00\x01\x01" + text("a") + "\x00", api.ErrForm},
		"account below 0":                   {"\x01\x03\x01\x01\x00", api.ErrForm},
		"set with a number":                 {"\x01\x04\x01\x02\x00", api.ErrForm},
		"set that falls":                    {"\x01\x04\x00\x01\x02" + text("b") + "\x00" + text("a") + "\x00", api.ErrForm},
		"set with the same again":           {"\x01\x04\x00\x01\x02" + text("a") + "\x00" + text("a") + "\x00", api.ErrForm},
		"semiqueue with the same again":     {"\x01\x07\x00\x01\x02" + text("a") + "\x00" + text("a") + "\x00", api.OK},
		"set with a val":                    {"\x01\x04\x00\x01\x01" + text("a") + text("b"), api.ErrForm},
		"falls, but then bytes are wanting": {"\x01\x04\x00\x01\x03" + text("b") + "\x00" + text("a") + "\x00", api.ErrEnd},
	} {
		if e := mustParse(t, x.s); e != x.want {
			t.Errorf("%s: %d, not %d", name, e, x.want)
		}
	}
}

// P11.1: each front of a state's bytes but the whole is ErrEnd; with a byte more it is ErrForm.
func TestParseFronts(t *testing.T) {
	r := rand.New(rand.NewSource(10))
	for range 500 {
		text := good(r).Text()
		for k := range len(text) {
			if e := mustParse(t, text[:k]); e != api.ErrEnd {
				t.Fatalf("%x: %d", text[:k], e)
			}
		}
		for b := range 256 {
			if e := mustParse(t, text+string([]byte{byte(b)})); e != api.ErrForm {
				t.Fatalf("%x, and %x: %d", text, b, e)
			}
		}
	}
}

// bend: bytes with something otherwise.
func bend(r *rand.Rand, s string) string {
	b := []byte(s)
	for range 1 + r.Intn(2) {
		at := 0
		if len(b) > 0 {
			at = r.Intn(len(b))
		}
		switch r.Intn(4) {
		case 0:
			b = append(b[:at:at], b[min(at+1, len(b)):]...)
		case 1:
			b = append(b[:at:at], append([]byte{byte(r.Intn(10))}, b[at:]...)...)
		case 2:
			if len(b) > 0 {
				b[at] = byte(r.Intn(256))
			}
		default:
			if len(b) > 0 {
				b[at] += byte(r.Intn(3)) - 1
			}
		}
	}
	return string(b)
}

// P11.1, P11.2, P7: any bytes as a state: of those that say something the same are written again.
func TestParseAny(t *testing.T) {
	r := rand.New(rand.NewSource(11))
	counts := map[api.Errno]int{}
	for range 150000 {
		var text string
		switch r.Intn(4) {
		case 0:
			b := make([]byte, r.Intn(40))
			for k := range b {
				b[k] = byte(r.Intn(1 + r.Intn(256)))
			}
			text = string(b)
		case 1:
			s := mixed(r)
			s.Kind = max(s.Kind, 0)
			text = s.Text()
		default:
			text = bend(r, good(r).Text())
		}
		counts[mustParse(t, text)]++
	}
	for _, e := range []api.Errno{api.OK, api.ErrEnd, api.ErrForm, api.ErrBig, api.ErrKind, api.ErrFull} {
		if counts[e] < 300 {
			t.Errorf("%v", counts)
		}
	}
}
