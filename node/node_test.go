package node

import (
	"fmt"
	"math"
	"math/rand"
	"slices"
	"strings"
	"testing"

	"armoire/api"
)

// number: as layer 2 spells it.
func number(n int) string {
	digits := ""
	for ; n > 0; n /= 256 {
		digits = string([]byte{byte(n)}) + digits
	}
	return string([]byte{byte(len(digits))}) + digits
}

// text: as layer 2 spells it.
func text(s string) string { return number(len(s)) + s }

// bytesOf: a node's, as the chapter spells them.
func bytesOf(n Node) string {
	b := ""
	if n.Leaf {
		b = "\x01\x01" + number(len(n.Keys))
		for k := range n.Keys {
			b += text(n.Keys[k]) + text(n.Vals[k])
		}
		return b
	}
	b = "\x01\x02" + number(len(n.Kids))
	for _, kid := range n.Kids {
		b += number(kid)
	}
	for _, key := range n.Keys {
		b += text(key)
	}
	return b
}

func same(a, b Node) bool {
	return a.Leaf == b.Leaf && slices.Equal(a.Keys, b.Keys) && slices.Equal(a.Vals, b.Vals) && slices.Equal(a.Kids, b.Kids)
}

func isZero(n Node) bool { return same(n, Node{}) }

// leafOf: a leaf with so many entries: keys from the first-th on, each with a value that no other one has.
func leafOf(first, many int) Node {
	n := Node{Leaf: true}
	for k := first; k < first+many; k++ {
		n.Keys = append(n.Keys, fmt.Sprintf("k%03d", k))
		n.Vals = append(n.Vals, fmt.Sprintf("v%03d", k))
	}
	return n
}

// innerOf: one with so many kids, from page first on, and keys between: key k stands between kids k and k + 1.
func innerOf(first, many int) Node {
	n := Node{}
	for k := first; k < first+many; k++ {
		n.Kids = append(n.Kids, k)
		if k < first+many-1 {
			n.Keys = append(n.Keys, fmt.Sprintf("k%03d", k))
		}
	}
	return n
}

// some: a node that may be, of either sort.
func some(r *rand.Rand) Node {
	anyText := func(most int) string {
		b := make([]byte, []int{0, 1, 2, most, r.Intn(most + 1)}[r.Intn(5)])
		for k := range b {
			b[k] = []byte{0, 'a', 'b', 0xff, byte(r.Intn(256))}[r.Intn(5)]
		}
		return string(b)
	}
	n := Node{Leaf: r.Intn(2) == 0}
	keys := r.Intn(5)
	if !n.Leaf {
		keys = 1 + r.Intn(5)
		for range keys + 1 {
			n.Kids = append(n.Kids, []int{0, 1, 127, r.Intn(128)}[r.Intn(4)])
		}
	}
	for len(n.Keys) < keys {
		n.Keys = append(n.Keys, anyText(24))
		slices.Sort(n.Keys)
		n.Keys = slices.Compact(n.Keys)
	}
	if n.Leaf {
		for range keys {
			n.Vals = append(n.Vals, anyText(32))
		}
	}
	return n
}

func TestNumbers(t *testing.T) {
	if MaxKey != 24 || MaxVal != 32 || MostOf != 4 || LeastOf != 2 || MostIn != 6 || LeastIn != 3 {
		t.Error(MaxKey, MaxVal, MostOf, LeastOf, MostIn, LeastIn)
	}
}

// P8.1: Len, Over, Under, of each number.
func TestLen(t *testing.T) {
	for many := range 12 {
		if n := leafOf(0, many); n.Len() != many || n.Over() != (many >= 5) || n.Under() != (many <= 1) {
			t.Errorf("leaf of %d: %d, %v, %v", many, n.Len(), n.Over(), n.Under())
		}
		if n := innerOf(0, many); n.Len() != many || n.Over() != (many >= 7) || n.Under() != (many <= 2) {
			t.Errorf("%d kids: %d, %v, %v", many, n.Len(), n.Over(), n.Under())
		}
	}
}

// P8.1: Check: each error, and of two that apply the one that comes first.
func TestCheck(t *testing.T) {
	long, longer := strings.Repeat("k", 24), strings.Repeat("k", 25)
	val, over := strings.Repeat("v", 32), strings.Repeat("v", 33)
	cases := []struct {
		what string
		node Node
		want api.Errno
	}{
		{"no entries", Node{Leaf: true}, api.OK},
		{"empty lists", Node{true, []string{}, []string{}, []int{}}, api.OK},
		{"an entry", Node{true, []string{""}, []string{""}, nil}, api.OK},
		{"four", leafOf(0, 4), api.OK},
		{"long ones", Node{true, []string{"a", long}, []string{val, val}, nil}, api.OK},
		{"two kids", innerOf(0, 2), api.OK},
		{"six kids", innerOf(122, 6), api.OK},
		{"like kids", Node{false, []string{"", long}, nil, []int{7, 7, 7}}, api.OK},

		{"five", leafOf(0, 5), api.ErrBig},
		{"seven kids", innerOf(0, 7), api.ErrBig},
		{"five, no values", Node{true, leafOf(0, 5).Keys, nil, nil}, api.ErrBig},
		{"five, with kids", Node{true, leafOf(0, 5).Keys, leafOf(0, 5).Vals, []int{1}}, api.ErrBig},
		{"five alike", Node{true, make([]string, 5), make([]string, 5), nil}, api.ErrBig},
		{"seven kids, no keys", Node{Kids: make([]int, 7)}, api.ErrBig},
		{"seven kids, none a page", Node{false, innerOf(0, 7).Keys, []string{""}, []int{-1, -1, -1, -1, -1, -1, -1}}, api.ErrBig},

		{"zero", Node{}, api.ErrForm},
		{"no value", Node{true, []string{"a"}, nil, nil}, api.ErrForm},
		{"a value more", Node{true, []string{"a"}, []string{"", ""}, nil}, api.ErrForm},
		{"a value alone", Node{true, nil, []string{""}, nil}, api.ErrForm},
		{"five values", Node{true, nil, make([]string, 5), nil}, api.ErrForm},
		{"leaf with a kid", Node{true, []string{"a"}, []string{""}, []int{1}}, api.ErrForm},
		{"empty leaf with a kid", Node{true, nil, nil, []int{1}}, api.ErrForm},
		{"leaf with wrong kids", Node{true, []string{longer}, []string{over}, []int{-1, 128}}, api.ErrForm},
		{"unlike, and long", Node{true, []string{longer, "a"}, []string{over}, nil}, api.ErrForm},
		{"a kid", Node{Kids: []int{1}}, api.ErrForm},
		{"a kid and a key", Node{false, []string{"a"}, nil, []int{1}}, api.ErrForm},
		{"two kids, no key", Node{Kids: []int{1, 2}}, api.ErrForm},
		{"two kids, two keys", Node{false, []string{"a", "b"}, nil, []int{1, 2}}, api.ErrForm},
		{"a value", Node{false, []string{"a"}, []string{""}, []int{1, 2}}, api.ErrForm},
		{"keys alone", Node{Keys: []string{"a"}}, api.ErrForm},
		{"six kids, seven keys", Node{false, leafOf(0, 7).Keys, nil, innerOf(0, 6).Kids}, api.ErrForm},
		{"no key, long kids", Node{false, nil, nil, []int{-1, 128}}, api.ErrForm},
		{"long key too many", Node{false, []string{longer, longer}, nil, []int{-1, 128}}, api.ErrForm},

		{"long key", Node{true, []string{longer}, []string{""}, nil}, api.ErrBig},
		{"long value", Node{true, []string{"a"}, []string{over}, nil}, api.ErrBig},
		{"last value long", Node{true, leafOf(0, 4).Keys, []string{"", "", "", over}, nil}, api.ErrBig},
		{"last key long", Node{false, []string{"a", "b", longer}, nil, []int{1, 2, 3, 4}}, api.ErrBig},
		{"long and like", Node{true, []string{longer, longer}, []string{"", ""}, nil}, api.ErrBig},
		{"second long and below", Node{true, []string{"x", longer}, []string{"", ""}, nil}, api.ErrBig},
		{"second's value long, and below", Node{true, []string{"x", "a"}, []string{"", over}, nil}, api.ErrBig},
		{"first value long, second below", Node{true, []string{"x", "a"}, []string{over, ""}, nil}, api.ErrBig},
		{"long key, wrong kid", Node{false, []string{longer}, nil, []int{-1, 128}}, api.ErrBig},

		{"alike", Node{true, []string{"a", "a"}, []string{"", ""}, nil}, api.ErrForm},
		{"empty ones alike", Node{true, []string{"", ""}, []string{"", ""}, nil}, api.ErrForm},
		{"falling", Node{true, []string{"a", "c", "b", "d"}, make([]string, 4), nil}, api.ErrForm},
		{"last falling", Node{true, []string{"a", "b", "c", "bb"}, make([]string, 4), nil}, api.ErrForm},
		{"beginnings", Node{true, []string{"ab", "a"}, make([]string, 2), nil}, api.ErrForm},
		{"kids' keys alike", Node{false, []string{"a", "a"}, nil, []int{1, 2, 3}}, api.ErrForm},
		{"kids' keys falling", Node{false, []string{"\xff", "a"}, nil, []int{1, 2, 3}}, api.ErrForm},
		{"falling, then long", Node{true, []string{"b", "a", longer}, make([]string, 3), nil}, api.ErrForm},
		{"falling, then a long value", Node{true, []string{"b", "a", "c"}, []string{"", "", over}, nil}, api.ErrForm},
		{"falling, wrong kids", Node{false, []string{"b", "a"}, nil, []int{-1, 128, 1}}, api.ErrForm},

		{"kid -1", Node{false, []string{"a"}, nil, []int{-1, 2}}, api.ErrArg},
		{"kid 128", Node{false, []string{"a"}, nil, []int{127, 128}}, api.ErrArg},
		{"last kid 128", Node{false, innerOf(0, 6).Keys, nil, []int{0, 1, 2, 3, 4, 128}}, api.ErrArg},
		{"kid 256", Node{false, []string{"a"}, nil, []int{0, 256}}, api.ErrArg},
		{"least kid", Node{false, []string{"a"}, nil, []int{0, math.MinInt}}, api.ErrArg},
		{"greatest kid", Node{false, []string{"a"}, nil, []int{math.MaxInt, 0}}, api.ErrArg},
		{"kid 2^32", Node{false, []string{"a"}, nil, []int{1 << 32, 0}}, api.ErrArg},
	}
	for _, c := range cases {
		if e := c.node.Check(); e != c.want {
			t.Errorf("%s: %d, not %d", c.what, e, c.want)
		}
	}
}

// first: Check's answer, told as the first of all complaints in their order.
func first(n Node) api.Errno {
	complaints := []api.Errno{}
	complain := func(is bool, e api.Errno) {
		if is {
			complaints = append(complaints, e)
		}
	}
	complain(n.Leaf && len(n.Keys) > 4 || !n.Leaf && len(n.Kids) > 6, api.ErrBig)
	complain(n.Leaf && (len(n.Keys) != len(n.Vals) || len(n.Kids) > 0), api.ErrForm)
	complain(!n.Leaf && (len(n.Kids) < 2 || len(n.Kids) != len(n.Keys)+1 || len(n.Vals) > 0), api.ErrForm)
	for k := range n.Keys {
		complain(len(n.Keys[k]) > 24, api.ErrBig)
		complain(k < len(n.Vals) && len(n.Vals[k]) > 32, api.ErrBig)
		complain(k > 0 && strings.Compare(n.Keys[max(k-1, 0)], n.Keys[k]) != -1, api.ErrForm)
	}
	for _, kid := range n.Kids {
		complain(kid != kid&127, api.ErrArg)
	}
	return append(complaints, api.OK)[0]
}

// P8.1: Check: nodes that may be, of which one to three things are made otherwise.
func TestCheckAny(t *testing.T) {
	r := rand.New(rand.NewSource(1))
	counts := map[api.Errno]int{}
	texts := []string{"", "a", "b", "zz", strings.Repeat("k", 24), strings.Repeat("k", 25), strings.Repeat("v", 32), strings.Repeat("v", 33), strings.Repeat("w", 300)}
	for range 30000 {
		n := some(r)
		for range r.Intn(4) {
			word := texts[r.Intn(len(texts))]
			switch r.Intn(9) {
			case 0:
				n.Leaf = !n.Leaf
			case 1:
				n.Keys = append(n.Keys, word)
			case 2:
				n.Vals = append(n.Vals, word)
			case 3:
				n.Kids = append(n.Kids, []int{-1, 0, 127, 128}[r.Intn(4)])
			case 4:
				n.Keys = n.Keys[:len(n.Keys)-min(len(n.Keys), 1)]
			case 5:
				n.Kids = n.Kids[:len(n.Kids)-min(len(n.Kids), 1)]
			case 6:
				if len(n.Keys) > 0 {
					n.Keys[r.Intn(len(n.Keys))] = word
				}
			case 7:
				if len(n.Vals) > 0 {
					n.Vals[r.Intn(len(n.Vals))] = word
				}
			case 8:
				if len(n.Kids) > 0 {
					n.Kids[r.Intn(len(n.Kids))] = []int{-1, 128, 1 << 20, math.MinInt}[r.Intn(4)]
				}
			}
		}
		want := first(n)
		if e := n.Check(); e != want {
			t.Fatalf("%#v: %d, not %d", n, e, want)
		}
		counts[want]++
		// Whatever it is, nothing panics.
		n.Text()
		n.Find("a")
		n.Set("a", "b")
		n.Cut("a")
		n.Split()
		Level(n, "a", n)
		Between(n, "a", n)
	}
	if len(counts) != 4 || counts[api.OK] < 3000 || counts[api.ErrArg] < 300 || counts[api.ErrForm] < 3000 || counts[api.ErrBig] < 1000 {
		t.Errorf("%v", counts)
	}
}

// P8.1: Text by hand.
func TestText(t *testing.T) {
	cases := []struct {
		node Node
		want string
	}{
		{Node{Leaf: true}, "\x01\x01\x00"},
		{Node{true, []string{""}, []string{""}, nil}, "\x01\x01\x01\x01\x00\x00"},
		{Node{true, []string{"a", "bc"}, []string{"", "xyz"}, nil}, "\x01\x01\x01\x02\x01\x01a\x00\x01\x02bc\x01\x03xyz"},
		{Node{false, []string{"k"}, nil, []int{0, 127}}, "\x01\x02\x01\x02\x00\x01\x7f\x01\x01k"},
		{Node{false, []string{"", "k"}, nil, []int{3, 1, 2}}, "\x01\x02\x01\x03\x01\x03\x01\x01\x01\x02\x00\x01\x01k"},
		{Node{true, []string{strings.Repeat("k", 300)}, []string{strings.Repeat("v", 256)}, nil}, "\x01\x01\x01\x01\x02\x01\x2c" + strings.Repeat("k", 300) + "\x02\x01\x00" + strings.Repeat("v", 256)},
	}
	for _, c := range cases {
		if s := c.node.Text(); s != c.want {
			t.Errorf("%#v: %x, not %x", c.node, s, c.want)
		}
	}
	for many := range 20 {
		if n := leafOf(0, many); n.Text() != bytesOf(n) {
			t.Errorf("leaf of %d: %x", many, n.Text())
		}
		if n := innerOf(0, many); n.Text() != bytesOf(n) {
			t.Errorf("%d kids: %x", many, n.Text())
		}
	}
}

// P8.2: there and back.
func TestThereAndBack(t *testing.T) {
	r := rand.New(rand.NewSource(2))
	for range 20000 {
		n := some(r)
		if e := n.Check(); e != api.OK {
			t.Fatalf("%#v: %d", n, e)
		}
		s := n.Text()
		if s != bytesOf(n) {
			t.Fatalf("%#v: %x", n, s)
		}
		if len(s) > 248 {
			t.Fatalf("%#v has %d bytes", n, len(s))
		}
		if back, e := Parse(s); e != api.OK || !same(back, n) {
			t.Fatalf("%#v: %#v, %d", n, back, e)
		}
	}
}

// P8.2: the greatest nodes fit a page, whose text is at most 248 bytes.
func TestGreatest(t *testing.T) {
	leaf, inner := Node{Leaf: true}, Node{Kids: []int{127, 127, 127, 127, 127, 127}}
	for k := range 5 {
		key := strings.Repeat("\xff", 23) + string([]byte{byte(250 + k)})
		inner.Keys = append(inner.Keys, key)
		if k < 4 {
			leaf.Keys = append(leaf.Keys, key)
			leaf.Vals = append(leaf.Vals, strings.Repeat("v", 32))
		}
	}
	for want, n := range map[int]Node{244: leaf, 146: inner} {
		if n.Check() != api.OK || len(n.Text()) != want {
			t.Errorf("%d, %d bytes", n.Check(), len(n.Text()))
		}
		if back, e := Parse(n.Text()); e != api.OK || !same(back, n) {
			t.Errorf("%#v, %d", back, e)
		}
	}
}

// reader takes from the front of bytes, and stays with the first error.
type reader struct {
	s   string
	err api.Errno
}

func (r *reader) fail(e api.Errno) int {
	if r.err == api.OK {
		r.err = e
	}
	r.s = ""
	return 0
}

func (r *reader) number(most int) int {
	switch {
	case r.err != api.OK:
		return 0
	case r.s == "":
		return r.fail(api.ErrEnd)
	case r.s[0] > 8:
		return r.fail(api.ErrForm)
	case len(r.s) < 1+int(r.s[0]):
		return r.fail(api.ErrEnd)
	case r.s[0] > 0 && r.s[1] == 0:
		return r.fail(api.ErrForm)
	case r.s[0] > 1:
		return r.fail(api.ErrBig)
	}
	n := 0
	if r.s[0] == 1 {
		n = int(r.s[1])
	}
	r.s = r.s[1+int(r.s[0]):]
	if n > most {
		return r.fail(api.ErrBig)
	}
	return n
}

func (r *reader) text(most int) string {
	n := r.number(most)
	if n > len(r.s) {
		r.fail(api.ErrEnd)
		return ""
	}
	s := r.s[:n]
	r.s = r.s[n:]
	return s
}

// says: what bytes say as a node, by another reader.
func says(s string) (Node, api.Errno) {
	r := &reader{s: s}
	n := Node{}
	switch kind := r.number(2); {
	case r.err != api.OK:
	case kind == 0:
		r.fail(api.ErrKind)
	case kind == 1:
		n.Leaf = true
		for many := r.number(4); many > 0; many-- {
			n.Keys = append(n.Keys, r.text(24))
			n.Vals = append(n.Vals, r.text(32))
		}
	default:
		many := r.number(6)
		for range many {
			n.Kids = append(n.Kids, r.number(127))
		}
		for k := 1; k < many; k++ {
			n.Keys = append(n.Keys, r.text(24))
		}
	}
	if r.s != "" {
		r.fail(api.ErrForm)
	}
	if r.err == api.OK {
		r.err = first(n)
	}
	if r.err != api.OK {
		return Node{}, r.err
	}
	return n, api.OK
}

// mustParse: Parse says what the other reader does, and what is read is written the same.
func mustParse(t *testing.T, s string) api.Errno {
	t.Helper()
	n, e := Parse(s)
	want, f := says(s)
	if e != f || !same(n, want) {
		t.Fatalf("Parse(%x): %#v, %d, not %#v, %d", s, n, e, want, f)
	}
	if e != api.OK && !isZero(n) {
		t.Fatalf("Parse(%x): %#v beside %d", s, n, e)
	}
	if e == api.OK && (n.Text() != s || n.Check() != api.OK) {
		t.Fatalf("Parse(%x): %x, %d", s, n.Text(), n.Check())
	}
	return e
}

// P8.1, P8.2, P7: Parse: all short texts of some bytes.
func TestParseShort(t *testing.T) {
	alphabet := []byte{0, 1, 2, 3, 4, 5, 6, 7, 8, 9, 24, 25, 33, 127, 128, 255}
	counts := map[api.Errno]int{}
	var grow func(s string, more int)
	grow = func(s string, more int) {
		counts[mustParse(t, s)]++
		if more == 0 {
			return
		}
		for _, c := range alphabet {
			grow(s+string([]byte{c}), more-1)
		}
	}
	grow("", 4)
	for _, ahead := range []string{"\x01\x01", "\x01\x02", "\x01\x02\x01\x02", "\x01\x01\x01\x01", "\x01\x01\x01\x02\x01\x01", "\x01\x02\x01\x02\x00\x00"} {
		grow(ahead, 4)
	}
	for _, e := range []api.Errno{api.OK, api.ErrEnd, api.ErrForm, api.ErrBig, api.ErrKind} {
		if counts[e] == 0 {
			t.Errorf("%d isn't met", e)
		}
	}
}

// P8.1: Parse: each error by hand, and which one of several comes first.
func TestParseErrors(t *testing.T) {
	key, val := text(strings.Repeat("k", 24)), text(strings.Repeat("v", 32))
	cases := []struct {
		what, s string
		want    api.Errno
	}{
		{"nothing", "", api.ErrEnd},
		{"kind cut", "\x01", api.ErrEnd},
		{"kind 0", "\x00", api.ErrKind},
		{"kind 0, more behind", "\x00abc", api.ErrKind},
		{"kind 3", "\x01\x03", api.ErrBig},
		{"kind 0 spelled long", "\x01\x00", api.ErrForm},
		{"kind 1 spelled long", "\x02\x00\x01\x00", api.ErrForm},
		{"kind of nine bytes", "\x09\x01", api.ErrForm},
		{"kind 256", "\x02\x01\x00", api.ErrBig},
		{"no number", "\x01\x01", api.ErrEnd},
		{"five", "\x01\x01\x01\x05", api.ErrBig},
		{"five, all there", bytesOf(leafOf(0, 5)), api.ErrBig},
		{"something left", "\x01\x01\x00\x00", api.ErrForm},
		{"a node, and something left", bytesOf(leafOf(0, 4)) + "\x00", api.ErrForm},
		{"kids, and something left", bytesOf(innerOf(0, 2)) + "\x00", api.ErrForm},
		{"no key", "\x01\x01\x01\x01", api.ErrEnd},
		{"no value", "\x01\x01\x01\x01" + key, api.ErrEnd},
		{"key cut", "\x01\x01\x01\x01\x01\x02a", api.ErrEnd},
		{"key of 24, value of 32", "\x01\x01\x01\x01" + key + val, api.OK},
		{"key of 25", "\x01\x01\x01\x01" + text(strings.Repeat("k", 25)) + val, api.ErrBig},
		{"key of 25, cut", "\x01\x01\x01\x01\x01\x19", api.ErrBig},
		{"value of 33", "\x01\x01\x01\x01" + key + text(strings.Repeat("v", 33)), api.ErrBig},
		{"alike", "\x01\x01\x01\x02" + key + val + key + val, api.ErrForm},
		{"alike, then cut", "\x01\x01\x01\x03" + key + val + key + val, api.ErrEnd},
		{"alike, then long", "\x01\x01\x01\x03" + key + val + key + val + "\x01\x19", api.ErrBig},
		{"no kids", "\x01\x02\x00", api.ErrForm},
		{"no kids, one left", "\x01\x02\x00\x01\x01", api.ErrForm},
		{"a kid", "\x01\x02\x01\x01\x01\x05", api.ErrForm},
		{"a kid, cut", "\x01\x02\x01\x01\x01", api.ErrEnd},
		{"seven kids", "\x01\x02\x01\x07", api.ErrBig},
		{"kid 128", "\x01\x02\x01\x02\x01\x01\x01\x80\x01\x01k", api.ErrBig},
		{"kid 127", "\x01\x02\x01\x02\x01\x01\x01\x7f\x01\x01k", api.OK},
		{"kid 128, cut", "\x01\x02\x01\x02\x01\x80", api.ErrBig},
		{"keys wanting", "\x01\x02\x01\x02\x01\x01\x01\x7f", api.ErrEnd},
		{"kid's key of 25", "\x01\x02\x01\x02\x01\x01\x01\x7f" + text(strings.Repeat("k", 25)), api.ErrBig},
		{"kids' keys falling", "\x01\x02\x01\x03\x00\x00\x00\x01\x01b\x01\x01a", api.ErrForm},
	}
	for _, c := range cases {
		n, e := Parse(c.s)
		if e != c.want || e != api.OK && !isZero(n) {
			t.Errorf("%s: %#v, %d, not %d", c.what, n, e, c.want)
		}
		mustParse(t, c.s)
	}
}

// bend: a text that is otherwise at some places.
func bend(r *rand.Rand, s string) string {
	b := []byte(s)
	for range r.Intn(4) {
		if len(b) == 0 {
			break
		}
		switch at := r.Intn(len(b)); r.Intn(6) {
		case 0:
			b[at] ^= 1 << r.Intn(8)
		case 1:
			b[at] = byte(r.Intn(10))
		case 2:
			b = slices.Delete(b, at, at+1)
		case 3:
			b = slices.Insert(b, at, byte(r.Intn(256)))
		case 4:
			b = b[:at]
		case 5:
			b = append(b, b[at:]...)
		}
	}
	return string(b)
}

// P8.1, P8.2, P7: Parse: any bytes, near those of nodes and far from them.
func TestParseAny(t *testing.T) {
	r := rand.New(rand.NewSource(3))
	counts := map[api.Errno]int{}
	for range 60000 {
		counts[mustParse(t, bend(r, some(r).Text()))]++
		b := make([]byte, r.Intn(300))
		r.Read(b)
		counts[mustParse(t, string(b))]++
	}
	if counts[api.OK] < 5000 || counts[api.ErrForm] < 5000 || counts[api.ErrEnd] < 5000 || counts[api.ErrBig] < 1000 {
		t.Errorf("%v", counts)
	}
}

// P8.1: Find: all nodes of up to six keys out of twelve, and all places of a key.
func TestFind(t *testing.T) {
	words := []string{"", "\x00", "a", "a\x00", "aa", "ab", "b", "c\xff", "d", "x", "\xff", "\xff\xff"}
	for mask := range 1 << len(words) {
		n := Node{Leaf: true}
		for k, word := range words {
			if mask>>k&1 == 1 {
				n.Keys = append(n.Keys, word)
				n.Vals = append(n.Vals, word)
			}
		}
		if len(n.Keys) > 6 {
			continue
		}
		inner := Node{Keys: n.Keys, Kids: make([]int, len(n.Keys)+1)}
		for _, word := range append(words, "zzz", "ac", "a\x01") {
			below, notAbove := 0, 0
			for _, key := range n.Keys {
				if key < word {
					below++
				}
				if !(key > word) {
					notAbove++
				}
			}
			if at, there := n.Find(word); at != below || there != slices.Contains(n.Keys, word) {
				t.Fatalf("leaf %#v, Find(%#v): %d, %v", n.Keys, word, at, there)
			}
			if at, there := inner.Find(word); at != notAbove || there != slices.Contains(n.Keys, word) {
				t.Fatalf("%#v, Find(%#v): %d, %v", n.Keys, word, at, there)
			}
		}
	}
}

// entries: a leaf as the test keeps it.
func entries(m map[string]string) Node {
	n := Node{Leaf: true}
	for key := range m {
		n.Keys = append(n.Keys, key)
	}
	slices.Sort(n.Keys)
	for _, key := range n.Keys {
		n.Vals = append(n.Vals, m[key])
	}
	return n
}

// P8.1: Set and Cut: long rows of them against a map, also of leaves that are Over, and of keys and values that are too long.
func TestSetCut(t *testing.T) {
	r := rand.New(rand.NewSource(4))
	words := []string{"", "a", "b", "ba", "c", "d", "e", "\x00", "\xff", strings.Repeat("k", 24), strings.Repeat("k", 25), strings.Repeat("long", 200)}
	for range 300 {
		n, m := Node{Leaf: true}, map[string]string{}
		for step := range 60 {
			key, val := words[r.Intn(len(words))], words[r.Intn(len(words))]+fmt.Sprint(step)
			if r.Intn(3) == 0 {
				n = n.Cut(key)
				delete(m, key)
			} else {
				n = n.Set(key, val)
				m[key] = val
			}
			if !same(n, entries(m)) {
				t.Fatalf("%#v, not %#v", n, entries(m))
			}
		}
	}
	n := leafOf(0, 4)
	if !same(n.Cut("none"), n) || !same(n.Set("k002", "v002"), n) || !same(Node{Leaf: true}.Cut(""), Node{Leaf: true}) {
		t.Error("something is changed")
	}
	for k := range 4 {
		if m := n.Set(n.Keys[k], ""); m.Vals[k] != "" || m.Len() != 4 {
			t.Errorf("%#v", m)
		}
		if m := n.Cut(n.Keys[k]); m.Len() != 3 || !same(m.Set(n.Keys[k], n.Vals[k]), n) {
			t.Errorf("%#v", m)
		}
	}
}
