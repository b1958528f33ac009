package codec

import (
	"math"
	"slices"
	"strings"
	"testing"

	"armoire/api"
)

// numbers: the edges of every length.
func numbers() []uint64 {
	l := []uint64{0, 1, 127, 128, 300, math.MaxInt64, math.MaxInt64 + 1, math.MaxUint64 - 1, math.MaxUint64}
	for k := 1; k < 8; k++ {
		n := uint64(1) << (8 * k)
		l = append(l, n-1, n, n+1, n<<7, n*0xff)
	}
	return l
}

func wholeNumbers() []int64 {
	l := []int64{math.MinInt64, math.MinInt64 + 1, math.MaxInt64, math.MaxInt64 - 1}
	for _, n := range numbers() {
		l = append(l, int64(n>>1), -int64(n>>1), -int64(n>>1)-1)
	}
	return l
}

// shortTexts: all texts of up to most of these bytes.
func shortTexts(alphabet string, most int) []string {
	l := []string{""}
	last := l
	for range most {
		var next []string
		for _, s := range last {
			for k := range len(alphabet) {
				next = append(next, s+alphabet[k:k+1])
			}
		}
		l = append(l, next...)
		last = next
	}
	return l
}

// stuck: an In with this error, as it must be from then on.
func stuck(t *testing.T, what string, i *In, want api.Errno) {
	t.Helper()
	i.Fail(api.OK)
	i.Fail(api.ErrStamp)
	if i.Err() != want || i.Len() != 0 {
		t.Errorf("%q: error %d, not %d; %d left", what, i.Err(), want, i.Len())
	}
	if u, n, w, s := i.U(), i.N(math.MaxInt), i.I(), i.S(math.MaxInt); u != 0 || n != 0 || w != 0 || s != "" {
		t.Errorf("%q: behind the error: %d, %d, %d, %q", what, u, n, w, s)
	}
	if e := i.End(); e != want || i.Err() != want || i.Len() != 0 {
		t.Errorf("%q: End: %d, not %d; %d left", what, e, want, i.Len())
	}
}

// P2.1: U's bytes.
func TestOutU(t *testing.T) {
	for _, x := range []struct {
		n    uint64
		want string
	}{
		{0, "\x00"},
		{1, "\x01\x01"},
		{255, "\x01\xff"},
		{256, "\x02\x01\x00"},
		{300, "\x02\x01\x2c"},
		{1 << 16, "\x03\x01\x00\x00"},
		{1 << 56, "\x08\x01\x00\x00\x00\x00\x00\x00\x00"},
		{math.MaxUint64, "\x08\xff\xff\xff\xff\xff\xff\xff\xff"},
	} {
		if s := new(Out).U(x.n).Text(); s != x.want {
			t.Errorf("U %d: %x", x.n, s)
		}
	}
}

// P2.1: N's bytes: of one below 0: 0.
func TestOutN(t *testing.T) {
	for _, x := range []struct {
		n    int
		want string
	}{
		{0, "\x00"},
		{-1, "\x00"},
		{math.MinInt, "\x00"},
		{3, "\x01\x03"},
		{300, "\x02\x01\x2c"},
		{math.MaxInt64, "\x08\x7f\xff\xff\xff\xff\xff\xff\xff"},
	} {
		if s := new(Out).N(x.n).Text(); s != x.want {
			t.Errorf("N %d: %x", x.n, s)
		}
	}
}

// P2.1: I's bytes.
func TestOutI(t *testing.T) {
	for _, x := range []struct {
		n    int64
		want string
	}{
		{0, "\x00"},
		{-1, "\x01\x01"},
		{1, "\x01\x02"},
		{-2, "\x01\x03"},
		{127, "\x01\xfe"},
		{-128, "\x01\xff"},
		{128, "\x02\x01\x00"},
		{math.MaxInt64, "\x08\xff\xff\xff\xff\xff\xff\xff\xfe"},
		{math.MinInt64, "\x08\xff\xff\xff\xff\xff\xff\xff\xff"},
	} {
		if s := new(Out).I(x.n).Text(); s != x.want {
			t.Errorf("I %d: %x", x.n, s)
		}
	}
}

// P2.1: S's bytes.
func TestOutS(t *testing.T) {
	long := strings.Repeat("\x00x", 150)
	for _, x := range []struct{ text, want string }{
		{"", "\x00"},
		{"ab", "\x01\x02ab"},
		{"\x00", "\x01\x01\x00"},
		{"é", "\x01\x02\xc3\xa9"},
		{long, "\x02\x01\x2c" + long},
	} {
		if s := new(Out).S(x.text).Text(); s != x.want {
			t.Errorf("S %q: %x", x.text, s)
		}
	}
}

// P2.1: lists, and calls one behind the other; each answers the Out itself.
func TestOutLists(t *testing.T) {
	var o Out
	if o.Text() != "" {
		t.Errorf("the zero Out: %x", o.Text())
	}
	if o.U() != &o || o.N() != &o || o.I() != &o || o.S() != &o || o.Text() != "" {
		t.Errorf("empty lists: %x", o.Text())
	}
	if o.U(nil...) != &o || o.S([]string{}...) != &o || o.Text() != "" {
		t.Errorf("nil lists: %x", o.Text())
	}
	if o.U(0, 300) != &o || o.N(-1, 2) != &o || o.I(-1, 1) != &o || o.S("", "a") != &o {
		t.Errorf("a call answers another Out")
	}
	if s := o.Text(); s != "\x00\x02\x01\x2c"+"\x00\x01\x02"+"\x01\x01\x01\x02"+"\x00\x01\x01a" {
		t.Errorf("Text: %x", s)
	}
}

// K3: lists that are handed in stay, and a Text stays when its Out goes on.
func TestOutSharesNothing(t *testing.T) {
	u, n, i, s := []uint64{1, 300}, []int{-1, 3}, []int64{-1, 1}, []string{"a", ""}
	var o Out
	o.U(u...).N(n...).I(i...).S(s...)
	first := o.Text()
	kept := strings.Clone(first)
	o.U(7)
	if first != kept || o.Text() != kept+"\x01\x07" {
		t.Errorf("Text: %x, then %x", first, o.Text())
	}
	if !slices.Equal(u, []uint64{1, 300}) || !slices.Equal(n, []int{-1, 3}) || !slices.Equal(i, []int64{-1, 1}) || !slices.Equal(s, []string{"a", ""}) {
		t.Errorf("lists: %d, %d, %d, %q", u, n, i, s)
	}
}

// P2.1: Read, Len, Err, End, as bytes are taken.
func TestInTakes(t *testing.T) {
	i := Read("\x02\x01\x2c\x01\x03\x01\x01\x01\x02ab")
	if i.Len() != 11 || i.Err() != api.OK {
		t.Errorf("at first: %d left, %d", i.Len(), i.Err())
	}
	if u := i.U(); u != 300 || i.Len() != 8 {
		t.Errorf("U: %d, %d left", u, i.Len())
	}
	if n := i.N(3); n != 3 || i.Len() != 6 {
		t.Errorf("N: %d, %d left", n, i.Len())
	}
	if n := i.I(); n != -1 || i.Len() != 4 {
		t.Errorf("I: %d, %d left", n, i.Len())
	}
	if s := i.S(2); s != "ab" || i.Len() != 0 {
		t.Errorf("S: %q, %d left", s, i.Len())
	}
	if i.Err() != api.OK || i.End() != api.OK || i.Err() != api.OK {
		t.Errorf("at last: %d, %d", i.Err(), i.End())
	}
}

// P2.1: U's errors, in their order, by whichever call asks for a number.
func TestInNumberErrors(t *testing.T) {
	for _, x := range []struct {
		text string
		want api.Errno
	}{
		{"", api.ErrEnd},
		{"\x01", api.ErrEnd},
		{"\x02\x01", api.ErrEnd},
		{"\x08\x01\x02\x03\x04\x05\x06\x07", api.ErrEnd},
		{"\x09", api.ErrForm},
		{"\xff", api.ErrForm},
		{"\x09\x01\x02\x03\x04\x05\x06\x07\x08\x09", api.ErrForm},
		{"\x01\x00", api.ErrForm},
		{"\x02\x00\x01", api.ErrForm},
		{"\x08\x00\xff\xff\xff\xff\xff\xff\xff", api.ErrForm},
		{"\x02\x00", api.ErrEnd}, // bytes wanting is named ahead of a byte 0 ahead
		{"\x01\x00\x01\x01", api.ErrForm},
	} {
		for name, ask := range map[string]func(*In) bool{
			"U":          func(i *In) bool { return i.U() == 0 },
			"N(0)":       func(i *In) bool { return i.N(0) == 0 },
			"N(MaxInt)":  func(i *In) bool { return i.N(math.MaxInt) == 0 },
			"N(-1)":      func(i *In) bool { return i.N(-1) == 0 },
			"I":          func(i *In) bool { return i.I() == 0 },
			"S(0)":       func(i *In) bool { return i.S(0) == "" },
			"S(MaxInt)":  func(i *In) bool { return i.S(math.MaxInt) == "" },
			"S(-MaxInt)": func(i *In) bool { return i.S(-math.MaxInt) == "" },
		} {
			i := Read(x.text)
			if !ask(i) {
				t.Errorf("%s of %x: an answer beside the error", name, x.text)
			}
			stuck(t, name+" of "+x.text, i, x.want)
		}
	}
}

// P2.1: N's most.
func TestInMost(t *testing.T) {
	for _, x := range []struct {
		n    uint64
		most int
		err  api.Errno
	}{
		{0, 0, api.OK},
		{0, -1, api.OK},
		{0, math.MinInt, api.OK},
		{1, 0, api.ErrBig},
		{1, -1, api.ErrBig},
		{1, math.MinInt, api.ErrBig},
		{8, 8, api.OK},
		{9, 8, api.ErrBig},
		{255, 256, api.OK},
		{math.MaxInt64, math.MaxInt64, api.OK},
		{math.MaxInt64, math.MaxInt64 - 1, api.ErrBig},
		{math.MaxInt64 + 1, math.MaxInt64, api.ErrBig},
		{math.MaxUint64, math.MaxInt64, api.ErrBig},
		{math.MaxUint64, -1, api.ErrBig},
	} {
		i := Read(new(Out).U(x.n, 5).Text())
		n := i.N(x.most)
		if x.err != api.OK {
			if n != 0 {
				t.Errorf("N(%d) of %d: %d beside the error", x.most, x.n, n)
			}
			stuck(t, "N", i, x.err)
		} else if uint64(n) != x.n || i.Err() != api.OK || i.U() != 5 || i.End() != api.OK {
			t.Errorf("N(%d) of %d: %d, %d", x.most, x.n, n, i.Err())
		}
	}
}

// P2.1: S: how many, then its own bytes.
func TestInS(t *testing.T) {
	for _, x := range []struct {
		text string
		most int
		want string
		left int
	}{
		{"\x00", 0, "", 0},
		{"\x00ab", -1, "", 2},
		{"\x01\x02ab", 2, "ab", 0},
		{"\x01\x02abc", 3, "ab", 1},
		{"\x01\x02\x00\xff", 2, "\x00\xff", 0},
	} {
		i := Read(x.text)
		if s := i.S(x.most); s != x.want || i.Err() != api.OK || i.Len() != x.left {
			t.Errorf("S(%d) of %x: %x, %d, %d left", x.most, x.text, s, i.Err(), i.Len())
		}
	}
	for _, x := range []struct {
		text string
		most int
		want api.Errno
	}{
		{"\x01\x02a", 2, api.ErrEnd},
		{"\x01\x01", 1, api.ErrEnd},
		{"\x01\x02a", 1, api.ErrBig}, // above most is told ahead of what is wanting
		{"\x01\x02ab", 1, api.ErrBig},
		{"\x01\x02ab", 0, api.ErrBig},
		{"\x01\x02ab", -1, api.ErrBig},
		{"\x08\x7f\xff\xff\xff\xff\xff\xff\xffab", math.MaxInt64, api.ErrEnd},
		{"\x08\xff\xff\xff\xff\xff\xff\xff\xffab", math.MaxInt64, api.ErrBig},
	} {
		i := Read(x.text)
		if s := i.S(x.most); s != "" {
			t.Errorf("S(%d) of %x: %x beside the error", x.most, x.text, s)
		}
		stuck(t, "S of "+x.text, i, x.want)
	}
}

// P2.1: Fail: the first error stays, and OK is none.
func TestFail(t *testing.T) {
	i := Read("\x01\x05")
	i.Fail(api.OK)
	if i.Err() != api.OK || i.Len() != 2 || i.U() != 5 {
		t.Errorf("Fail(OK): %d", i.Err())
	}
	for _, e := range []api.Errno{api.ErrEnd, api.ErrForm, api.ErrName, -1, 1000} {
		i := Read("\x01\x05\x01\x06")
		i.U()
		i.Fail(e)
		stuck(t, "Fail", i, e)
	}
	empty := Read("")
	empty.Fail(api.ErrKind)
	stuck(t, "Fail of nothing", empty, api.ErrKind)
}

// P2.1: End: ErrForm, if something is left; it stays, as each error does.
func TestEnd(t *testing.T) {
	if e := Read("").End(); e != api.OK {
		t.Errorf("End of nothing: %d", e)
	}
	if e := new(In).End(); e != api.OK {
		t.Errorf("End of the zero In: %d", e)
	}
	for _, s := range []string{"\x00", "a", "\x00\x00"} {
		i := Read(s)
		if e := i.End(); e != api.ErrForm {
			t.Errorf("End of %x: %d", s, e)
		}
		stuck(t, "End", i, api.ErrForm)
	}
	i := Read("\x00\x00")
	if i.U(); i.End() != api.ErrForm {
		t.Errorf("End with a byte left: %d", i.Err())
	}
}

// P2.2: numbers, whole numbers and texts there and back.
func TestThereAndBack(t *testing.T) {
	texts := append(shortTexts("\x00\x01a\xff", 3), strings.Repeat("é\x00", 1000))
	var o Out
	o.U(numbers()...).I(wholeNumbers()...).S(texts...)
	i := Read(o.Text())
	for _, n := range numbers() {
		if u := i.U(); u != n {
			t.Errorf("U: %d, not %d", u, n)
		}
	}
	for _, n := range wholeNumbers() {
		if w := i.I(); w != n {
			t.Errorf("I: %d, not %d", w, n)
		}
	}
	for _, text := range texts {
		if s := i.S(len(text)); s != text {
			t.Errorf("S: %x, not %x", s, text)
		}
	}
	if e := i.End(); e != api.OK {
		t.Errorf("End: %d", e)
	}
}

// P2.2: one spelling: what is read whole is what would be written; of all texts of up to two bytes, and of longer ones of bytes at the edges.
func TestOneSpelling(t *testing.T) {
	var all [256]byte
	for k := range all {
		all[k] = byte(k)
	}
	texts := append(shortTexts(string(all[:]), 2), shortTexts("\x00\x01\x02\x03\x08\x09\xff", 5)...)
	for _, s := range texts {
		i := Read(s)
		if n := i.U(); i.End() == api.OK && new(Out).U(n).Text() != s {
			t.Errorf("%x is read as the number %d", s, n)
		}
		i = Read(s)
		if n := i.I(); i.End() == api.OK && new(Out).I(n).Text() != s {
			t.Errorf("%x is read as the whole number %d", s, n)
		}
		i = Read(s)
		if text := i.S(9); i.End() == api.OK && new(Out).S(text).Text() != s {
			t.Errorf("%x is read as the text %x", s, text)
		}
	}
}

// P2.2: bytes that are wanting at the end are told, wherever the end is.
func TestEveryFront(t *testing.T) {
	whole := new(Out).U(300).I(math.MinInt64).S("ab\x00").U(math.MaxUint64).Text()
	for size := range len(whole) {
		i := Read(whole[:size])
		i.U()
		i.I()
		i.S(3)
		i.U()
		stuck(t, "a front", i, api.ErrEnd)
	}
}
