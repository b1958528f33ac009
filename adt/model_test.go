package adt

import (
	"fmt"
	"math"
	"math/big"
	"math/rand"
	"slices"
	"strings"

	"armoire/method"
	"armoire/value"
)

var fits = strings.Repeat("x", 24)

// item is a thing of an object; one without a Val is a bare text.
type item struct{ key, val string }

// model is an object in plain words: a text, a number, or things in the order in which they came.
type model struct {
	kind  int
	text  string
	n     *big.Int
	items []item
}

// modelOf: a state, in plain words.
func modelOf(s value.State) *model {
	m := &model{kind: s.Kind, n: big.NewInt(s.N)}
	for _, r := range s.Rows {
		if s.Kind == value.Register {
			m.text = r.Key
		} else {
			m.items = append(m.items, item{r.Key, r.Val})
		}
	}
	return m
}

// state: and back.
func (m *model) state() value.State {
	s := value.State{Kind: m.kind, N: m.number()}
	if m.text != "" {
		s.Rows = []value.Row{{Key: m.text}}
	}
	l := slices.Clone(m.items)
	if m.kind != value.Queue {
		slices.SortStableFunc(l, func(a, b item) int { return strings.Compare(a.key, b.key) })
	}
	for _, x := range l {
		s.Rows = append(s.Rows, value.Row{Key: x.key, Val: x.val})
	}
	return s
}

// number: modulo 2^64, as -2^63 to 2^63 - 1.
func (m *model) number() int64 {
	half := new(big.Int).Lsh(big.NewInt(1), 63)
	n := new(big.Int).Add(m.n, half)
	n.Mod(n, new(big.Int).Lsh(half, 1))
	return n.Sub(n, half).Int64()
}

// find: the place of the first one that came with that key; -1: there is none.
func (m *model) find(key string) int {
	return slices.IndexFunc(m.items, func(x item) bool { return x.key == key })
}

// answers: by the chapter's list, op by op.
func (m *model) answers(c method.Call) []method.Result {
	code := map[bool]int{true: 1, false: 2}
	there := m.find(c.A) >= 0
	answer := method.Result{}
	switch fmt.Sprint(m.kind, " ", c.Op.Word()) {
	case "1 read":
		answer = method.Result{Code: 1, Text: m.text}
	case "1 write", "2 add", "3 credit", "6 enq", "7 put":
		answer = method.Result{Code: 1}
	case "2 count", "3 balance":
		answer = method.Result{Code: 1, N: m.number()}
	case "3 debit":
		answer.Code = code[big.NewInt(m.number()).Cmp(big.NewInt(c.N)) >= 0]
	case "4 insert", "5 bind":
		answer.Code = code[!there]
	case "4 remove", "4 has", "5 unbind":
		answer.Code = code[there]
	case "5 look":
		answer.Code = code[there]
		if there {
			answer.Text = m.items[m.find(c.A)].val
		}
	case "6 deq":
		answer.Code = code[len(m.items) > 0]
		if len(m.items) > 0 {
			answer.Text = m.items[0].key
		}
	case "7 take":
		keys := map[string]int{}
		for _, x := range m.items {
			keys[x.key]++
		}
		var l []method.Result
		for key := range keys {
			l = append(l, method.Result{Code: 1, Text: key})
		}
		slices.SortFunc(l, func(a, b method.Result) int { return strings.Compare(a.Text, b.Text) })
		if len(l) > 0 {
			return l
		}
		answer.Code = 2
	default:
		return nil
	}
	return []method.Result{answer}
}

// apply: what the chapter says of each op, also of answers that aren't Legal.
func (m *model) apply(c method.Call, r method.Result) {
	goes := ""
	switch fmt.Sprint(m.kind, " ", c.Op.Word()) {
	case "1 write":
		m.text = c.A
		return
	case "2 add", "3 credit":
		m.n.Add(m.n, big.NewInt(c.N))
		return
	case "3 debit":
		if r.Code == 1 {
			m.n.Sub(m.n, big.NewInt(c.N))
		}
		return
	case "6 enq", "7 put":
		m.items = append(m.items, item{c.A, ""})
		return
	case "4 insert", "5 bind":
		if r.Code == 1 {
			m.items = append(m.items, item{c.A, c.B})
		}
		return
	case "4 remove", "5 unbind":
		goes = c.A
	case "6 deq", "7 take":
		goes = r.Text
	default:
		return
	}
	if at := m.find(goes); r.Code == 1 && at >= 0 {
		m.items = slices.Delete(m.items, at, at+1)
	}
}

// look: all that there is of a state, as text.
func look(s value.State) string {
	b := fmt.Sprint(s.Kind, " ", s.N, " ", len(s.Rows))
	for _, r := range s.Rows {
		b += fmt.Sprintf(" %q:%q", r.Key, r.Val)
	}
	return b
}

// keysUpTo: all lists of up to so many of these texts, in their order: any, or rising, perhaps the same again, or each once.
func keysUpTo(most int, letters []string, fit func(a, b string) bool) [][]string {
	all := [][]string{nil}
	for from, size := 0, 1; size <= most; size++ {
		to := len(all)
		for _, l := range all[from:to] {
			for _, key := range letters {
				if len(l) == 0 || fit(l[len(l)-1], key) {
					all = append(all, append(slices.Clone(l), key))
				}
			}
		}
		from = to
	}
	return all
}

// smallStates: of each type the small ones that may be.
func smallStates() []value.State {
	var all []value.State
	add := func(kind int, most int, fit func(a, b string) bool) {
		for _, l := range keysUpTo(most, []string{"", "a", "b"}, fit) {
			s := value.State{Kind: kind}
			for k, key := range l {
				r := value.Row{Key: key}
				if kind == value.Directory {
					r.Val = []string{"", "v", "a"}[(k+len(l))%3]
				}
				s.Rows = append(s.Rows, r)
			}
			all = append(all, s)
		}
	}
	for _, text := range []string{"", "a", "b", fits} {
		all = append(all, modelState(value.Register, text))
	}
	for _, n := range []int64{math.MinInt64, -5, -1, 0, 1, 2, 5, math.MaxInt64} {
		all = append(all, value.State{Kind: value.Counter, N: n})
	}
	for _, n := range []int64{0, 1, 2, 5, 1<<20 - 1, 1 << 20, 1<<50 - 1, 1 << 50, math.MaxInt64} {
		all = append(all, value.State{Kind: value.Account, N: n})
	}
	rises := func(a, b string) bool { return a < b }
	add(value.Set, 3, rises)
	add(value.Directory, 3, rises)
	add(value.Queue, 3, func(a, b string) bool { return true })
	add(value.Semi, 4, func(a, b string) bool { return a <= b })
	return all
}

// modelState: of that type, with that text.
func modelState(kind int, text string) value.State {
	return (&model{kind: kind, text: text, n: new(big.Int)}).state()
}

// someCalls: of each op some that may be.
func someCalls() []method.Call {
	var all []method.Call
	for o := method.Op(1); o <= 17; o++ {
		for _, a := range []string{"", "a", "b", "c", fits} {
			for _, b := range []string{"", "v", "a"} {
				for _, n := range []int64{math.MinInt64, -1, 0, 1, 2, 5, 1 << 20, math.MaxInt64} {
					if c := (method.Call{Op: o, A: a, B: b, N: n}); c.Check() == 0 {
						all = append(all, c)
					}
				}
			}
		}
	}
	return all
}

// someResults: such as may be, and others.
func someResults() []method.Result {
	var all []method.Result
	for code := -1; code <= 3; code++ {
		for _, text := range []string{"", "a", "b", "c", "v"} {
			for _, n := range []int64{math.MinInt64, -1, 0, 1, 5, math.MaxInt64} {
				all = append(all, method.Result{Code: code, Text: text, N: n})
			}
		}
	}
	return all
}

// aText: few are unlike, so that they meet.
func aText(r *rand.Rand) string {
	return []string{"", "a", "b", "c", "a\x00", "\xff", "d", "e", "f", fits}[r.Intn(10)]
}

// anyState: of any type, that may be.
func anyState(r *rand.Rand) value.State {
	m := &model{kind: 1 + r.Intn(7), n: new(big.Int)}
	switch m.kind {
	case value.Register:
		m.text = aText(r)
	case value.Counter:
		m.n = big.NewInt(int64(r.Uint64()) >> r.Intn(64))
	case value.Account:
		m.n = big.NewInt(r.Int63() >> r.Intn(63))
	default:
		for range r.Intn(9) {
			x := item{key: aText(r)}
			if m.kind == value.Directory {
				x.val = aText(r)
			}
			if m.kind == value.Queue || m.kind == value.Semi || m.find(x.key) < 0 {
				m.items = append(m.items, x)
			}
		}
	}
	return m.state()
}

// aCall: of an op of that type (0: of any op), that may be.
func aCall(r *rand.Rand, kind int) method.Call {
	c := method.Call{Op: method.Op(1 + r.Intn(17))}
	for kind != 0 && c.Op.Kind() != kind {
		c.Op = method.Op(1 + r.Intn(17))
	}
	switch c.Op {
	case method.Add:
		c.N = int64(r.Uint64()) >> r.Intn(64)
	case method.Credit, method.Debit:
		c.N = 1 + r.Int63n(1<<r.Intn(21))
	case method.Read, method.Count, method.Balance, method.Deq, method.Take:
	case method.Bind:
		c.A, c.B = aText(r), aText(r)
	default:
		c.A = aText(r)
	}
	return c
}

// aResult: such as may be Legal, or not, or not even be.
func aResult(r *rand.Rand, s value.State, c method.Call) method.Result {
	if l := modelOf(s).answers(c); len(l) > 0 && r.Intn(2) == 0 {
		return l[r.Intn(len(l))]
	}
	x := method.Result{Code: []int{1, 1, 1, 2, 2, 0, 3, -1}[r.Intn(8)]}
	if r.Intn(2) == 0 {
		x.Text = aText(r)
	}
	if r.Intn(4) == 0 {
		x.N = s.N + int64(r.Intn(2))
	}
	return x
}

// roomy: the same, with room behind its rows, in which a mark stands.
func roomy(s value.State) value.State {
	l := make([]value.Row, len(s.Rows)+4)
	for k := range l {
		l[k] = value.Row{Key: "mark", Val: "mark"}
	}
	copy(l, s.Rows)
	s.Rows = l[:len(s.Rows)]
	return s
}

// whole: a state, and what stands in the room behind its rows.
func whole(s value.State) string {
	return look(s) + fmt.Sprint(s.Rows[:cap(s.Rows)])
}

// scribble: over all of a state's rows, and the room behind them.
func scribble(s value.State) {
	l := s.Rows[:cap(s.Rows)]
	for k := range l {
		l[k] = value.Row{Key: "over", Val: "written"}
	}
}
