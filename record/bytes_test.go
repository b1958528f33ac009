package record

import (
	"math"
	"math/rand"
	"slices"
	"strings"
	"testing"

	"armoire/adt"
	"armoire/api"
	"armoire/codec"
	"armoire/intent"
	"armoire/method"
	"armoire/value"
)

const mostTxn = 1 << 40

var (
	fits   = strings.Repeat("x", 24)
	name16 = "0123456789abcdez"
	bare   = method.Result{Code: method.Yes}
	no     = method.Result{Code: method.No}
)

func told(text string) method.Result { return method.Result{Code: method.Yes, Text: text} }

// entry, money, bind: of a call with a text, with a number, and of the catalog.
func entry(object string, op method.Op, a string, r method.Result) intent.Entry {
	return intent.Entry{Object: object, Step: adt.Step{Call: method.Call{Op: op, A: a}, Result: r}}
}

func money(object string, op method.Op, n int64, r method.Result) intent.Entry {
	return intent.Entry{Object: object, Step: adt.Step{Call: method.Call{Op: op, N: n}, Result: r}}
}

func bind(name, word string, r method.Result) intent.Entry {
	return intent.Entry{Step: adt.Step{Call: method.Call{Op: method.Bind, A: name, B: word}, Result: r}}
}

// sameCommit: a nil list is an empty one.
func sameCommit(c, d Commit) bool {
	return c.Txn == d.Txn && slices.Equal(c.Entries, d.Entries)
}

// twelve: as many as a commit may have.
func twelve() []intent.Entry {
	var l []intent.Entry
	for k := range 12 {
		l = append(l, money(name16[k:k+1], method.Add, int64(k), bare))
	}
	return l
}

// P20.1: the chapter's example.
func TestExample(t *testing.T) {
	if s := (Commit{Txn: 3}).Text(); s != "\x01\x03\x00" {
		t.Errorf("%x", s)
	}
}

// P20.1, P20.2: the bytes, by hand, and back.
func TestBytes(t *testing.T) {
	adds := ""
	for k := range 12 {
		n := string([]byte{1, byte(2 * k)})
		if k == 0 {
			n = "\x00"
		}
		adds += "\x01\x01" + name16[k:k+1] + "\x01\x03\x00\x00" + n + "\x01\x01\x00\x00"
	}
	for want, c := range map[string]Commit{
		"\x00\x00":                         {},
		"\x01\x01\x00":                     {Txn: 1, Entries: []intent.Entry{}},
		"\x02\x01\x2c\x00":                 {Txn: 300},
		"\x05\xff\xff\xff\xff\xff\x00":     {Txn: mostTxn - 1},
		"\x06\x01\x00\x00\x00\x00\x00\x00": {Txn: mostTxn},
		"\x00\x01\x01\x01\x01q\x01\x0e\x01\x01a\x00\x00\x01\x01\x00\x00":                                                      {Entries: []intent.Entry{entry("q", method.Enq, "a", bare)}},
		"\x01\x09\x01\x01\x00\x01\x0b\x01\x01q\x01\x05queue\x00\x01\x01\x00\x00":                                              {Txn: 9, Entries: []intent.Entry{bind("q", "queue", bare)}},
		"\x01\x09\x01\x01\x01\x10" + name16 + "\x01\x11\x00\x00\x00\x01\x01\x01\x18" + fits + "\x00":                          {Txn: 9, Entries: []intent.Entry{entry(name16, method.Take, "", told(fits))}},
		"\x01\x09\x01\x02\x01\x01a\x01\x06\x00\x00\x01\x0a\x01\x02\x00\x00\x01\x01b\x01\x0a\x01\x01x\x00\x00\x01\x02\x00\x00": {Txn: 9, Entries: []intent.Entry{money("a", method.Debit, 5, no), entry("b", method.Has, "x", no)}},
		"\x01\x07\x01\x0c" + adds:                     {Txn: 7, Entries: twelve()},
		"\x06\x01\x00\x00\x00\x00\x00\x01\x0c" + adds: {Txn: mostTxn, Entries: twelve()},
	} {
		if got := c.Text(); got != want {
			t.Errorf("%+v: %x, not %x", c, got, want)
		}
		if got, e := Parse(want); !sameCommit(got, c) || e != api.OK {
			t.Errorf("%x: %+v, %d", want, got, e)
		}
	}
}

// P20.1: Text ends of any commit, also of such as may not be.
func TestTextAny(t *testing.T) {
	many := append(twelve(), twelve()...)
	if s := (Commit{Txn: -5}).Text(); s != "\x00\x00" {
		t.Errorf("%x", s)
	}
	for _, c := range []Commit{
		{Txn: math.MinInt, Entries: many},
		{Txn: math.MaxInt},
		{Txn: 1, Entries: []intent.Entry{entry(strings.Repeat("N", 300), -7, strings.Repeat("y", 300), method.Result{Code: -1, N: math.MinInt64})}},
	} {
		was := slices.Clone(c.Entries)
		if _, e := Parse(c.Text()); e == api.OK {
			t.Errorf("%+v", c)
		}
		if !slices.Equal(c.Entries, was) {
			t.Errorf("now %+v", c.Entries)
		}
	}
}

// says: Parse's answer, by another reader: of the bytes part by part, as layers 2 and 15 read each by itself.
func says(s string) (Commit, api.Errno) {
	err := api.OK
	part := func(read func(i *codec.In)) {
		i := codec.Read(s)
		if err == api.OK {
			read(i)
			err, s = i.Err(), s[len(s)-i.Len():]
		}
	}
	var c Commit
	many := 0
	part(func(i *codec.In) { c.Txn = i.N(mostTxn) })
	part(func(i *codec.In) { many = i.N(12) })
	for k := 0; k < many; k++ {
		part(func(i *codec.In) { c.Entries = append(c.Entries, intent.Read(i)) })
		if err == api.OK && strings.Trim(c.Entries[k].Object, "abcdefghijklmnopqrstuvwxyz0123456789") != "" {
			err = api.ErrName
		}
	}
	if err == api.OK && s != "" {
		err = api.ErrForm
	}
	if err != api.OK {
		return Commit{}, err
	}
	return c, api.OK
}

// mustParse: Parse answers what the other reader does; what is read is written the same, and nothing else beside an error.
func mustParse(t *testing.T, s string) api.Errno {
	t.Helper()
	c, e := Parse(s)
	want, f := says(s)
	if !sameCommit(c, want) || e != f {
		t.Fatalf("%x: %+v, %d, not %+v, %d", s, c, e, want, f)
	}
	if e == api.OK && c.Text() != s {
		t.Fatalf("%x: written as %x", s, c.Text())
	}
	if e != api.OK && (c.Txn != 0 || c.Entries != nil) {
		t.Fatalf("%x: %+v beside %d", s, c, e)
	}
	return e
}

// P20.1: Parse: each error, ahead of those that come behind it.
func TestParseErrors(t *testing.T) {
	step := "\x01\x0e\x01\x01a\x00\x00\x01\x01\x00\x00"
	one := "\x01\x01q" + step
	for name, x := range map[string]struct {
		s    string
		want api.Errno
	}{
		"nothing":                               {"", api.ErrEnd},
		"Txn wants its bytes":                   {"\x02\x01", api.ErrEnd},
		"Txn of nine bytes":                     {"\x09", api.ErrForm},
		"Txn with noughts":                      {"\x01\x00\x00", api.ErrForm},
		"Txn 2^40":                              {"\x06\x01\x00\x00\x00\x00\x00\x00", api.OK},
		"Txn 2^40 + 1":                          {"\x06\x01\x00\x00\x00\x00\x01\x00", api.ErrBig},
		"Txn 2^40 + 1, then nothing":            {"\x06\x01\x00\x00\x00\x00\x01", api.ErrBig},
		"Txn 2^64 - 1":                          {"\x08\xff\xff\xff\xff\xff\xff\xff\xff\x00", api.ErrBig},
		"Txn alone":                             {"\x01\x03", api.ErrEnd},
		"how many, of nine bytes":               {"\x01\x03\x09", api.ErrForm},
		"13 entries":                            {"\x01\x03\x01\x0d" + strings.Repeat(one, 13), api.ErrBig},
		"13 entries, none there":                {"\x01\x03\x01\x0d", api.ErrBig},
		"12 entries":                            {"\x01\x03\x01\x0c" + strings.Repeat(one, 12), api.OK},
		"12 entries, 13 there":                  {"\x01\x03\x01\x0c" + strings.Repeat(one, 13), api.ErrForm},
		"12 entries, 11 there":                  {"\x01\x03\x01\x0c" + strings.Repeat(one, 11), api.ErrEnd},
		"no entries, something behind":          {"\x01\x03\x00\x00", api.ErrForm},
		"an entry, something behind":            {"\x01\x03\x01\x01" + one + "\x00", api.ErrForm},
		"an entry that wants its last byte":     {"\x01\x03\x01\x01" + one[:len(one)-1], api.ErrEnd},
		"an entry of no op":                     {"\x01\x03\x01\x01\x01\x01q\x00\x00\x00\x00\x01\x01\x00\x00", api.ErrKind},
		"an entry of op 18":                     {"\x01\x03\x01\x01\x01\x01q\x01\x12\x00\x00\x00\x01\x01\x00\x00", api.ErrBig},
		"an entry of no money":                  {"\x01\x03\x01\x01\x01\x01q\x01\x05\x00\x00\x00\x01\x01\x00\x00", api.ErrArg},
		"an entry with a text that it hasn't":   {"\x01\x03\x01\x01\x01\x01q\x01\x01\x01\x01a\x00\x00\x01\x01\x00\x00", api.ErrForm},
		"an entry without an answer's code":     {"\x01\x03\x01\x01\x01\x01q\x01\x0f\x00\x00\x00\x00\x00\x00", api.ErrKind},
		"the catalog":                           {"\x01\x03\x01\x01\x00" + step, api.OK},
		"a name of 16":                          {"\x01\x03\x01\x01\x01\x10" + name16 + step, api.OK},
		"a name of 17":                          {"\x01\x03\x01\x01\x01\x11" + name16 + "x" + step, api.ErrBig},
		"a name with a capital":                 {"\x01\x03\x01\x01\x01\x01Q" + step, api.ErrName},
		"a name with a nought":                  {"\x01\x03\x01\x01\x01\x02q\x00" + step, api.ErrName},
		"a name of 16, the last one amiss":      {"\x01\x03\x01\x01\x01\x10" + name16[1:] + "-" + step, api.ErrName},
		"a bad name, no op":                     {"\x01\x03\x01\x01\x01\x01Q\x00\x00\x00\x00\x01\x01\x00\x00", api.ErrKind},
		"a bad name, the entry not ended":       {"\x01\x03\x01\x01\x01\x01Q" + step[:len(step)-1], api.ErrEnd},
		"a bad name, something behind":          {"\x01\x03\x01\x01\x01\x01Q" + step + "\x00", api.ErrName},
		"a bad name, the next entry wanting":    {"\x01\x03\x01\x02\x01\x01Q" + step, api.ErrName},
		"a bad name, the next entry of no op":   {"\x01\x03\x01\x02\x01\x01Q" + step + "\x01\x01q\x00\x00\x00\x00\x01\x01\x00\x00", api.ErrName},
		"an entry of no op, then a bad name":    {"\x01\x03\x01\x02\x01\x01q\x00\x00\x00\x00\x01\x01\x00\x00\x01\x01Q" + step, api.ErrKind},
		"a good entry, then a bad name":         {"\x01\x03\x01\x02" + one + "\x01\x01Q" + step, api.ErrName},
		"a bad name of an entry beyond so many": {"\x01\x03\x01\x01" + one + "\x01\x01Q" + step, api.ErrForm},
	} {
		c, e := Parse(x.s)
		if e != x.want || e != api.OK && !sameCommit(c, Commit{}) {
			t.Errorf("%s: %+v, %d, not %d", name, c, e, x.want)
		}
		mustParse(t, x.s)
	}
}

// P20.1: each byte may not, or may, stand in a name.
func TestParseNames(t *testing.T) {
	for b := range 256 {
		for _, name := range []string{string([]byte{byte(b)}), "a" + string([]byte{byte(b)}), string([]byte{byte(b)}) + "0"} {
			c := Commit{Txn: 1, Entries: []intent.Entry{entry(name, method.Deq, "", no)}}
			want := api.ErrName
			if b >= 'a' && b <= 'z' || b >= '0' && b <= '9' {
				want = api.OK
			}
			if e := mustParse(t, c.Text()); e != want {
				t.Errorf("%q: %d", name, e)
			}
		}
	}
}

// anyText, anyEntry: that may be, at chance; often of one of few objects.
func anyText(r *rand.Rand) string {
	return []string{"", "a", "a", "b", "b", "c", "\x00\xff", fits}[r.Intn(8)]
}

func anyEntry(r *rand.Rand) intent.Entry {
	e := intent.Entry{Object: []string{"", "a", "b", "c", "d", name16}[r.Intn(6)]}
	c := &e.Step.Call
	c.Op = method.Op(1 + r.Intn(17))
	switch c.Op {
	case method.Add:
		c.N = int64(r.Uint64()) >> r.Intn(64)
	case method.Credit, method.Debit:
		c.N = 1 + r.Int63n(1<<r.Intn(21))
	case method.Bind:
		c.A, c.B = anyText(r), anyText(r)
	case method.Read, method.Count, method.Balance, method.Deq, method.Take:
	default:
		c.A = anyText(r)
	}
	e.Step.Result.Code = 1 + r.Intn(2)
	switch r.Intn(4) {
	case 0:
		e.Step.Result.Text = anyText(r)
	case 1:
		e.Step.Result.N = int64(r.Uint64()) >> r.Intn(64)
	}
	return e
}

// anyCommit: of at most so many entries.
func anyCommit(r *rand.Rand, most int) Commit {
	c := Commit{Txn: []int{0, 1, 255, 256, mostTxn - 1, mostTxn, int(r.Int63n(mostTxn))}[r.Intn(7)]}
	for range r.Intn(most + 1) {
		c.Entries = append(c.Entries, anyEntry(r))
	}
	return c
}

// P20.2: there and back; two commits that aren't the same have other bytes.
func TestThereAndBack(t *testing.T) {
	r := rand.New(rand.NewSource(1))
	was := map[string]Commit{}
	for range 20000 {
		c := anyCommit(r, 12)
		s := c.Text()
		if d, e := Parse(s); !sameCommit(c, d) || e != api.OK || mustParse(t, s) != api.OK {
			t.Fatalf("%+v: %+v, %d", c, d, e)
		}
		if d, ok := was[s]; ok && !sameCommit(c, d) {
			t.Fatalf("%+v, %+v: %x", c, d, s)
		}
		was[s] = c
	}
}

// P20.1, P20.2: commits cut at each place: no beginning of one's bytes is another one's.
func TestCut(t *testing.T) {
	r := rand.New(rand.NewSource(2))
	commits := []Commit{{}, {Txn: mostTxn}, {Txn: 7, Entries: twelve()}}
	for range 300 {
		commits = append(commits, anyCommit(r, 12))
	}
	for _, c := range commits {
		s := c.Text()
		for at := range s {
			if e := mustParse(t, s[:at]); e != api.ErrEnd {
				t.Fatalf("%x: %d", s[:at], e)
			}
		}
		for _, more := range []string{"\x00", "\x01", "\xff", s} {
			if e := mustParse(t, s+more); e != api.ErrForm {
				t.Fatalf("%x: %d", s+more, e)
			}
		}
	}
}

// P20.1, P20.2: with each byte bent in each way.
func TestBent(t *testing.T) {
	r := rand.New(rand.NewSource(3))
	commits := []Commit{{}, {Txn: 1}, {Txn: mostTxn}, {Txn: 7, Entries: twelve()}}
	for range 60 {
		commits = append(commits, anyCommit(r, 4))
	}
	seen := map[api.Errno]int{}
	for _, c := range commits {
		s := []byte(c.Text())
		for at := range s {
			for by := 1; by < 256; by++ {
				s[at] ^= byte(by)
				seen[mustParse(t, string(s))]++
				s[at] ^= byte(by)
			}
		}
	}
	for _, e := range []api.Errno{api.OK, api.ErrEnd, api.ErrForm, api.ErrBig, api.ErrKind, api.ErrName, api.ErrArg} {
		if seen[e] < 20 {
			t.Errorf("%d: %d", e, seen[e])
		}
	}
}

// P20.1, P20.2: all texts of up to two bytes, of some bytes up to seven, and any at chance.
func TestParseAny(t *testing.T) {
	mustParse(t, "")
	for a := range 256 {
		mustParse(t, string([]byte{byte(a)}))
		for b := range 256 {
			mustParse(t, string([]byte{byte(a), byte(b)}))
		}
	}
	letters := "\x00\x01\x02\x03a\x0c\x09"
	var grow func(s string)
	grow = func(s string) {
		mustParse(t, s)
		if len(s) < 7 {
			for k := range len(letters) {
				grow(s + letters[k:k+1])
			}
		}
	}
	grow("")
	r := rand.New(rand.NewSource(4))
	for range 30000 {
		b := []byte(anyCommit(r, 12).Text())
		for range 1 + r.Intn(3) {
			if len(b) == 0 {
				break
			}
			switch at := r.Intn(len(b)); r.Intn(4) {
			case 0:
				b[at] ^= 1 << r.Intn(8)
			case 1:
				b = b[:at]
			case 2:
				b = append(b, byte(r.Intn(256)))
			default:
				b[at] = byte(r.Intn(30))
			}
		}
		mustParse(t, string(b))
	}
}

// K3: what Parse answers is the asker's own.
func TestParseOwn(t *testing.T) {
	s := Commit{Txn: 7, Entries: twelve()}.Text()
	c, _ := Parse(s)
	d, _ := Parse(s)
	for k := range c.Entries {
		c.Entries[k] = entry("over", method.Write, value.Word(value.Set), bare)
	}
	if !slices.Equal(d.Entries, twelve()) {
		t.Errorf("%+v", d)
	}
}
