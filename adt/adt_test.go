package adt

import (
	"math"
	"math/big"
	"math/rand"
	"slices"
	"testing"

	"armoire/api"
	"armoire/method"
	"armoire/value"
)

// rows: keys, without anything else.
func rows(keys ...string) []value.Row {
	var l []value.Row
	for _, key := range keys {
		l = append(l, value.Row{Key: key})
	}
	return l
}

// call, yes, no: as short as may be.
func call(o method.Op, a string) method.Call { return method.Call{Op: o, A: a} }

func count(o method.Op, n int64) method.Call { return method.Call{Op: o, N: n} }

var (
	bare = method.Result{Code: method.Yes}
	no   = method.Result{Code: method.No}
)

func told(text string) method.Result { return method.Result{Code: method.Yes, Text: text} }

func told64(n int64) method.Result { return method.Result{Code: method.Yes, N: n} }

// mustFit: Answers, Legal and Apply of a call that is answered so are what the model says.
func mustFit(t *testing.T, s value.State, c method.Call, r method.Result) {
	t.Helper()
	was := look(s)
	want := modelOf(s).answers(c)
	if got := Answers(s, c); !slices.Equal(got, want) {
		t.Fatalf("%s: %+v: %+v, not %+v", was, c, got, want)
	}
	if got := Legal(s, c, r); got != slices.Contains(want, r) {
		t.Fatalf("%s: %+v, %+v: %v", was, c, r, got)
	}
	m := modelOf(s)
	m.apply(c, r)
	if got := Apply(s, c, r); look(got) != look(m.state()) {
		t.Fatalf("%s: %+v, %+v: %s, not %s", was, c, r, look(got), look(m.state()))
	}
	if look(s) != was {
		t.Fatalf("%s: %+v, %+v: now %s", was, c, r, look(s))
	}
}

// P13.1: each type's answers, and the state behind the first one, by hand.
func TestByHand(t *testing.T) {
	ab := []value.Row{{Key: "a", Val: "1"}, {Key: "b", Val: ""}}
	for name, x := range map[string]struct {
		s    value.State
		c    method.Call
		want []method.Result
		n    int64 // of the state behind
		rows []value.Row
	}{
		"read nothing":            {value.New(value.Register), call(method.Read, ""), []method.Result{bare}, 0, nil},
		"read":                    {value.State{Kind: value.Register, Rows: rows("a")}, call(method.Read, ""), []method.Result{told("a")}, 0, rows("a")},
		"write":                   {value.State{Kind: value.Register, Rows: rows("a")}, call(method.Write, "b"), []method.Result{bare}, 0, rows("b")},
		"write the same":          {value.State{Kind: value.Register, Rows: rows("a")}, call(method.Write, "a"), []method.Result{bare}, 0, rows("a")},
		"write the first one":     {value.New(value.Register), call(method.Write, "b"), []method.Result{bare}, 0, rows("b")},
		"write nothing":           {value.State{Kind: value.Register, Rows: rows("a")}, call(method.Write, ""), []method.Result{bare}, 0, nil},
		"write nothing on none":   {value.New(value.Register), call(method.Write, ""), []method.Result{bare}, 0, nil},
		"add":                     {value.State{Kind: value.Counter, N: 3}, count(method.Add, -5), []method.Result{bare}, -2, nil},
		"add beyond":              {value.State{Kind: value.Counter, N: math.MaxInt64}, count(method.Add, 1), []method.Result{bare}, math.MinInt64, nil},
		"add below":               {value.State{Kind: value.Counter, N: math.MinInt64}, count(method.Add, -1), []method.Result{bare}, math.MaxInt64, nil},
		"add least to least":      {value.State{Kind: value.Counter, N: math.MinInt64}, count(method.Add, math.MinInt64), []method.Result{bare}, 0, nil},
		"count":                   {value.State{Kind: value.Counter, N: -3}, call(method.Count, ""), []method.Result{told64(-3)}, -3, nil},
		"count 0":                 {value.New(value.Counter), call(method.Count, ""), []method.Result{bare}, 0, nil},
		"credit":                  {value.State{Kind: value.Account, N: 1}, count(method.Credit, 5), []method.Result{bare}, 6, nil},
		"debit all":               {value.State{Kind: value.Account, N: 5}, count(method.Debit, 5), []method.Result{bare}, 0, nil},
		"debit some":              {value.State{Kind: value.Account, N: 5}, count(method.Debit, 4), []method.Result{bare}, 1, nil},
		"debit more":              {value.State{Kind: value.Account, N: 5}, count(method.Debit, 6), []method.Result{no}, 5, nil},
		"debit of an empty one":   {value.New(value.Account), count(method.Debit, 1), []method.Result{no}, 0, nil},
		"balance":                 {value.State{Kind: value.Account, N: 5}, call(method.Balance, ""), []method.Result{told64(5)}, 5, nil},
		"insert":                  {value.State{Kind: value.Set, Rows: rows("a", "c")}, call(method.Insert, "b"), []method.Result{bare}, 0, rows("a", "b", "c")},
		"insert nothing":          {value.State{Kind: value.Set, Rows: rows("a")}, call(method.Insert, ""), []method.Result{bare}, 0, rows("", "a")},
		"insert again":            {value.State{Kind: value.Set, Rows: rows("a", "c")}, call(method.Insert, "c"), []method.Result{no}, 0, rows("a", "c")},
		"remove":                  {value.State{Kind: value.Set, Rows: rows("a", "c")}, call(method.Remove, "a"), []method.Result{bare}, 0, rows("c")},
		"remove none":             {value.State{Kind: value.Set, Rows: rows("a", "c")}, call(method.Remove, "b"), []method.Result{no}, 0, rows("a", "c")},
		"has":                     {value.State{Kind: value.Set, Rows: rows("a", "c")}, call(method.Has, "c"), []method.Result{bare}, 0, rows("a", "c")},
		"has not":                 {value.State{Kind: value.Set, Rows: rows("a", "c")}, call(method.Has, "b"), []method.Result{no}, 0, rows("a", "c")},
		"has not nothing":         {value.New(value.Set), call(method.Has, ""), []method.Result{no}, 0, nil},
		"bind":                    {value.State{Kind: value.Directory, Rows: ab}, method.Call{Op: method.Bind, A: "aa", B: "2"}, []method.Result{bare}, 0, []value.Row{{Key: "a", Val: "1"}, {Key: "aa", Val: "2"}, {Key: "b"}}},
		"bind again":              {value.State{Kind: value.Directory, Rows: ab}, method.Call{Op: method.Bind, A: "b", B: "2"}, []method.Result{no}, 0, ab},
		"unbind":                  {value.State{Kind: value.Directory, Rows: ab}, call(method.Unbind, "a"), []method.Result{bare}, 0, ab[1:]},
		"unbind none":             {value.State{Kind: value.Directory, Rows: ab}, call(method.Unbind, "1"), []method.Result{no}, 0, ab},
		"look":                    {value.State{Kind: value.Directory, Rows: ab}, call(method.Look, "a"), []method.Result{told("1")}, 0, ab},
		"look, nothing there":     {value.State{Kind: value.Directory, Rows: ab}, call(method.Look, "b"), []method.Result{bare}, 0, ab},
		"look, not there":         {value.State{Kind: value.Directory, Rows: ab}, call(method.Look, "c"), []method.Result{no}, 0, ab},
		"enq":                     {value.State{Kind: value.Queue, Rows: rows("z")}, call(method.Enq, "a"), []method.Result{bare}, 0, rows("z", "a")},
		"deq":                     {value.State{Kind: value.Queue, Rows: rows("z", "a", "z")}, call(method.Deq, ""), []method.Result{told("z")}, 0, rows("a", "z")},
		"deq of an empty one":     {value.New(value.Queue), call(method.Deq, ""), []method.Result{no}, 0, nil},
		"deq nothing":             {value.State{Kind: value.Queue, Rows: rows("")}, call(method.Deq, ""), []method.Result{bare}, 0, nil},
		"put":                     {value.State{Kind: value.Semi, Rows: rows("a", "b")}, call(method.Put, "a"), []method.Result{bare}, 0, rows("a", "a", "b")},
		"take, as in the example": {value.State{Kind: value.Semi, Rows: rows("a", "b", "b")}, call(method.Take, ""), []method.Result{told("a"), told("b")}, 0, rows("b", "b")},
		"take, one and the same":  {value.State{Kind: value.Semi, Rows: rows("b", "b", "b")}, call(method.Take, ""), []method.Result{told("b")}, 0, rows("b", "b")},
		"take nothing":            {value.State{Kind: value.Semi, Rows: rows("", "", "a")}, call(method.Take, ""), []method.Result{bare, told("a")}, 0, rows("", "a")},
		"take of an empty one":    {value.New(value.Semi), call(method.Take, ""), []method.Result{no}, 0, nil},
		"another type":            {value.State{Kind: value.Semi, Rows: rows("a")}, call(method.Deq, ""), nil, 0, rows("a")},
		"another type of number":  {value.State{Kind: value.Counter, N: 7}, call(method.Balance, ""), nil, 7, nil},
	} {
		got := Answers(x.s, x.c)
		if !slices.Equal(got, x.want) {
			t.Errorf("%s: %+v, not %+v", name, got, x.want)
			continue
		}
		r := bare
		if len(x.want) > 0 {
			r = x.want[0]
		}
		for _, y := range x.want {
			if !Legal(x.s, x.c, y) {
				t.Errorf("%s: %+v isn't Legal", name, y)
			}
		}
		s := Apply(x.s, x.c, r)
		if s.Kind != x.s.Kind || s.N != x.n || !slices.Equal(s.Rows, x.rows) {
			t.Errorf("%s: %+v", name, s)
		}
		mustFit(t, x.s, x.c, r)
	}
}

// P13.1: Apply of answers that aren't Legal, and of states that there are only behind such, by hand.
func TestApplyIllegal(t *testing.T) {
	two := []value.Row{{Key: "a", Val: "1"}, {Key: "a", Val: "0"}}
	for name, x := range map[string]struct {
		s    value.State
		c    method.Call
		r    method.Result
		n    int64
		rows []value.Row
	}{
		"write, No":                  {value.State{Kind: value.Register, Rows: rows("a")}, call(method.Write, "b"), no, 0, rows("b")},
		"write, no code":             {value.State{Kind: value.Register, Rows: rows("a")}, call(method.Write, "b"), method.Result{}, 0, rows("b")},
		"read another one":           {value.State{Kind: value.Register, Rows: rows("a")}, call(method.Read, ""), told("b"), 0, rows("a")},
		"add, No":                    {value.State{Kind: value.Counter, N: 3}, count(method.Add, 4), no, 7, nil},
		"count another number":       {value.State{Kind: value.Counter, N: 3}, call(method.Count, ""), told64(4), 3, nil},
		"credit, No":                 {value.State{Kind: value.Account, N: 3}, count(method.Credit, 4), no, 7, nil},
		"credit beyond":              {value.State{Kind: value.Account, N: math.MaxInt64}, count(method.Credit, 1), bare, math.MinInt64, nil},
		"debit below 0":              {value.State{Kind: value.Account, N: 3}, count(method.Debit, 4), bare, -1, nil},
		"debit further below":        {value.State{Kind: value.Account, N: -1}, count(method.Debit, 1<<20), bare, -1 - 1<<20, nil},
		"debit, No, of enough":       {value.State{Kind: value.Account, N: 3}, count(method.Debit, 1), no, 3, nil},
		"debit, no code":             {value.State{Kind: value.Account, N: 3}, count(method.Debit, 1), method.Result{Code: 3}, 3, nil},
		"balance of another number":  {value.State{Kind: value.Account, N: 3}, call(method.Balance, ""), told64(-1), 3, nil},
		"insert again":               {value.State{Kind: value.Set, Rows: rows("a", "b")}, call(method.Insert, "a"), bare, 0, rows("a", "a", "b")},
		"insert, No, of none":        {value.State{Kind: value.Set, Rows: rows("a", "b")}, call(method.Insert, "c"), no, 0, rows("a", "b")},
		"insert, with a text":        {value.State{Kind: value.Set, Rows: rows("b")}, call(method.Insert, "a"), told("c"), 0, rows("a", "b")},
		"remove none":                {value.State{Kind: value.Set, Rows: rows("a", "b")}, call(method.Remove, "c"), bare, 0, rows("a", "b")},
		"remove one of two":          {value.State{Kind: value.Set, Rows: rows("a", "a", "b")}, call(method.Remove, "a"), bare, 0, rows("a", "b")},
		"remove, with another text":  {value.State{Kind: value.Set, Rows: rows("a", "b")}, call(method.Remove, "a"), told("b"), 0, rows("b")},
		"remove, No":                 {value.State{Kind: value.Set, Rows: rows("a", "b")}, call(method.Remove, "a"), no, 0, rows("a", "b")},
		"bind again":                 {value.State{Kind: value.Directory, Rows: two[:1]}, method.Call{Op: method.Bind, A: "a", B: "0"}, bare, 0, two},
		"unbind the first of two":    {value.State{Kind: value.Directory, Rows: two}, call(method.Unbind, "a"), bare, 0, two[1:]},
		"unbind, with another text":  {value.State{Kind: value.Directory, Rows: two[:1]}, call(method.Unbind, "b"), told("a"), 0, two[:1]},
		"look another one":           {value.State{Kind: value.Directory, Rows: two}, call(method.Look, "a"), told("7"), 0, two},
		"enq, No":                    {value.State{Kind: value.Queue, Rows: rows("z")}, call(method.Enq, "a"), no, 0, rows("z", "a")},
		"enq, with a text":           {value.State{Kind: value.Queue, Rows: rows("z")}, call(method.Enq, "a"), told("b"), 0, rows("z", "a")},
		"deq one that isn't first":   {value.State{Kind: value.Queue, Rows: rows("z", "a", "b", "a")}, call(method.Deq, ""), told("a"), 0, rows("z", "b", "a")},
		"deq none":                   {value.State{Kind: value.Queue, Rows: rows("z", "a")}, call(method.Deq, ""), told("b"), 0, rows("z", "a")},
		"deq, No, of some":           {value.State{Kind: value.Queue, Rows: rows("z")}, call(method.Deq, ""), method.Result{Code: method.No, Text: "z"}, 0, rows("z")},
		"deq of an empty one":        {value.New(value.Queue), call(method.Deq, ""), bare, 0, nil},
		"put, No":                    {value.State{Kind: value.Semi, Rows: rows("b")}, call(method.Put, "a"), no, 0, rows("a", "b")},
		"take none":                  {value.State{Kind: value.Semi, Rows: rows("a", "b")}, call(method.Take, ""), told("c"), 0, rows("a", "b")},
		"take, with a number":        {value.State{Kind: value.Semi, Rows: rows("a", "b")}, call(method.Take, ""), method.Result{Code: method.Yes, Text: "b", N: 1}, 0, rows("a")},
		"another type":               {value.State{Kind: value.Set, Rows: rows("a")}, call(method.Put, "a"), bare, 0, rows("a")},
		"another type that has less": {value.State{Kind: value.Queue, Rows: rows("a")}, call(method.Take, ""), told("a"), 0, rows("a")},
		"another type of number":     {value.State{Kind: value.Counter, N: 7}, count(method.Credit, 1), bare, 7, nil},
		"a register's, of a counter": {value.State{Kind: value.Counter, N: 7}, call(method.Write, "a"), bare, 7, nil},
	} {
		s := Apply(x.s, x.c, x.r)
		if s.Kind != x.s.Kind || s.N != x.n || !slices.Equal(s.Rows, x.rows) {
			t.Errorf("%s: %+v", name, s)
		}
		mustFit(t, x.s, x.c, x.r)
	}
}

// P13.1: all small states, calls of each op, of whatever type, and answers of all sorts.
func TestSmall(t *testing.T) {
	calls, results := someCalls(), someResults()
	r := rand.New(rand.NewSource(1))
	for _, s := range smallStates() {
		if s.Check() != api.OK {
			t.Fatalf("%+v: %d", s, s.Check())
		}
		for _, c := range calls {
			of := results
			if c.Op.Kind() != s.Kind { // a few will do: nothing may come of any
				of = []method.Result{results[r.Intn(len(results))], bare, no}
				if Answers(s, c) != nil {
					t.Fatalf("%+v, %+v: %+v", s, c, Answers(s, c))
				}
			}
			for _, x := range of {
				mustFit(t, s, c, x)
			}
		}
	}
}

// P13.1: states that Apply made, one behind the other, of steps that are Legal and others.
func TestLong(t *testing.T) {
	r := rand.New(rand.NewSource(2))
	legal, most := 0, 0
	for range 1500 {
		s := anyState(r)
		m := modelOf(s)
		for range 30 {
			kind := s.Kind
			if r.Intn(8) == 0 {
				kind = 0
			}
			c := aCall(r, kind)
			x := aResult(r, s, c)
			mustFit(t, s, c, x)
			if Legal(s, c, x) {
				legal++
			}
			s = Apply(s, c, x)
			m.apply(c, x)
			if look(s) != look(m.state()) {
				t.Fatalf("%+v, %+v: %s, not %s", c, x, look(s), look(m.state()))
			}
			most = max(most, len(s.Rows))
		}
	}
	if legal < 10000 || most < 15 {
		t.Errorf("%d, %d", legal, most)
	}
}

// P13.1: what isn't one of the ops, and what isn't of a type: nothing comes of it.
func TestNone(t *testing.T) {
	for _, o := range []method.Op{math.MinInt, -1, 0, 18, math.MaxInt} {
		for kind := range 9 {
			s := value.State{Kind: kind, Rows: rows("a")}
			if l := Answers(s, call(o, "a")); l != nil || Legal(s, call(o, "a"), bare) || look(Apply(s, call(o, "a"), bare)) != look(s) {
				t.Errorf("%d, %d: %+v", o, kind, l)
			}
		}
	}
}

// P13.1: Room at its bounds, by hand.
func TestRoom(t *testing.T) {
	of := func(n int) value.State { return value.State{Kind: value.Queue, Rows: make([]value.Row, n)} }
	account := func(n int64) value.State { return value.State{Kind: value.Account, N: n} }
	enq := call(method.Enq, "a")
	if MostMoney != 1125899906842624 {
		t.Errorf("MostMoney: %d", int64(MostMoney))
	}
	for name, x := range map[string]struct {
		s     value.State
		c     method.Call
		r     method.Result
		rows  int
		money int64
		want  api.Errno
	}{
		"the eighth":                  {of(7), enq, bare, 0, 0, api.OK},
		"a ninth":                     {of(8), enq, bare, 0, 0, api.ErrFull},
		"a ninth, with one beside":    {of(7), enq, bare, 1, 0, api.ErrFull},
		"the eighth, with all":        {of(0), enq, bare, 7, 0, api.OK},
		"a ninth, with all":           {of(0), enq, bare, 8, 0, api.ErrFull},
		"half and half":               {of(4), enq, bare, 3, 0, api.OK},
		"half and half, and one":      {of(4), enq, bare, 4, 0, api.ErrFull},
		"less than none beside":       {of(8), enq, bare, -1, 0, api.OK},
		"the least beside":            {of(8), enq, bare, math.MinInt, 0, api.OK},
		"the most beside":             {of(1), enq, bare, math.MaxInt, 0, api.ErrFull},
		"far more than may be":        {of(20), enq, bare, 0, 0, api.ErrFull},
		"enq, No":                     {of(8), enq, no, 0, 0, api.ErrFull},
		"deq":                         {of(9), call(method.Deq, ""), bare, math.MaxInt, 0, api.OK},
		"insert":                      {of(8), call(method.Insert, "a"), bare, 0, 0, api.ErrFull},
		"insert, No":                  {of(8), call(method.Insert, "a"), no, 9, 0, api.OK},
		"bind":                        {of(8), call(method.Bind, "a"), bare, 0, 0, api.ErrFull},
		"bind, No":                    {of(8), call(method.Bind, "a"), no, 9, 0, api.OK},
		"put":                         {of(8), call(method.Put, "a"), bare, 0, 0, api.ErrFull},
		"put, with room":              {of(7), call(method.Put, "a"), bare, 0, 1 << 50, api.OK},
		"write":                       {of(1), call(method.Write, "a"), bare, 9, 1 << 50, api.OK},
		"credit up to the most":       {account(1<<50 - 1), count(method.Credit, 1), bare, 0, 0, api.OK},
		"credit 1 beyond":             {account(1 << 50), count(method.Credit, 1), bare, 0, 0, api.ErrFull},
		"credit 1, with 1 beside":     {account(1<<50 - 1), count(method.Credit, 1), bare, 0, 1, api.ErrFull},
		"credit, with most beside":    {account(0), count(method.Credit, 1), bare, 0, 1<<50 - 1, api.OK},
		"credit, with all beside":     {account(0), count(method.Credit, 1), bare, 0, 1 << 50, api.ErrFull},
		"credit the most, up to it":   {account(1<<50 - 1<<20), count(method.Credit, 1<<20), bare, 0, 0, api.OK},
		"credit the most, beyond":     {account(1<<50 - 1<<20), count(method.Credit, 1<<20), bare, 0, 1, api.ErrFull},
		"credit, No":                  {account(1 << 50), count(method.Credit, 1), no, 0, 0, api.ErrFull},
		"credit, rows don't matter":   {account(0), count(method.Credit, 1), bare, 99, 0, api.OK},
		"credit of one below 0":       {account(-1), count(method.Credit, 1), bare, 0, 1 << 50, api.OK},
		"credit of a great counter":   {value.State{Kind: value.Counter, N: math.MaxInt64}, count(method.Credit, 1), bare, 0, 0, api.ErrFull},
		"credit of a small counter":   {value.State{Kind: value.Counter, N: math.MinInt64}, count(method.Credit, 1<<20), bare, 0, 1 << 50, api.OK},
		"debit, money doesn't matter": {account(1 << 50), count(method.Debit, 1), bare, 9, 1 << 50, api.OK},
		"debit, No, likewise":         {account(0), count(method.Debit, 1), no, 9, 1 << 50, api.OK},
		"add, money doesn't matter":   {value.State{Kind: value.Counter, N: 1 << 50}, count(method.Add, 1), bare, 9, 1 << 50, api.OK},
		"no op":                       {of(9), call(0, "a"), bare, 9, 1 << 50, api.OK},
	} {
		if e := Room(x.s, x.c, x.r, x.rows, x.money); e != x.want {
			t.Errorf("%s: %d, not %d", name, e, x.want)
		}
	}
}

// roomSays: Room's answer, by the chapter's words, with numbers that have no end.
func roomSays(s value.State, c method.Call, r method.Result, rows int, money int64) api.Errno {
	sum := func(l ...int64) *big.Int {
		all := new(big.Int)
		for _, n := range l {
			all.Add(all, big.NewInt(n))
		}
		return all
	}
	if method.Growth(c, r) == 1 && sum(int64(len(s.Rows)), int64(rows), 1).Cmp(big.NewInt(8)) > 0 {
		return api.ErrFull
	}
	if c.Op.Word() == "credit" && sum(s.N, money, c.N).Cmp(big.NewInt(1<<50)) > 0 {
		return api.ErrFull
	}
	return api.OK
}

// P13.1: Room of any step, near its bounds.
func TestRoomAny(t *testing.T) {
	r := rand.New(rand.NewSource(3))
	counts := map[api.Errno]int{}
	for range 200000 {
		s := anyState(r)
		if s.Kind == value.Account {
			s.N = 1<<50 - int64(r.Intn(4))
		}
		c := aCall(r, []int{0, s.Kind}[r.Intn(2)])
		x := aResult(r, s, c)
		n := 8 - len(s.Rows) - r.Intn(3)
		if r.Intn(8) == 0 {
			n = []int{math.MinInt, math.MinInt + 1, -1, 0, 9, math.MaxInt - 1, math.MaxInt}[r.Intn(7)]
		}
		money := []int64{0, 1, 2, 1<<50 - 1, 1 << 50}[r.Intn(5)]
		if c.Op == method.Credit && s.Kind == value.Account {
			c.N = 1 + int64(r.Intn(3))
			if r.Intn(2) == 0 {
				s.N, money = money, s.N
			}
		}
		want := roomSays(s, c, x, n, money)
		if e := Room(s, c, x, n, money); e != want {
			t.Fatalf("%+v, %+v, %+v, %d, %d: %d, not %d", s, c, x, n, money, e, want)
		}
		counts[want]++
	}
	if len(counts) != 2 || counts[api.ErrFull] < 15000 {
		t.Errorf("%v", counts)
	}
}

// P13.2: a state that may be, behind a step that is Legal, for which there is Room, may be; and Room is no less than is needed.
func TestMayBe(t *testing.T) {
	r := rand.New(rand.NewSource(4))
	roomless := 0
	must := func(s value.State, c method.Call) {
		for _, x := range Answers(s, c) {
			e, f := Room(s, c, x, 0, 0), Apply(s, c, x).Check()
			if e == api.OK && f != api.OK {
				t.Fatalf("%+v, %+v, %+v: %d", s, c, x, f)
			}
			if e != api.OK && c.Op != method.Credit {
				roomless++
				if f != api.ErrFull {
					t.Fatalf("%+v, %+v, %+v: %d", s, c, x, f)
				}
			}
			if x.Check() != api.OK {
				t.Fatalf("%+v, %+v: %+v", s, c, x)
			}
		}
	}
	calls := someCalls()
	for _, s := range smallStates() {
		for _, c := range calls {
			must(s, c)
		}
	}
	for range 60000 {
		s := anyState(r)
		if s.Check() != api.OK {
			t.Fatalf("%+v: %d", s, s.Check())
		}
		must(s, aCall(r, s.Kind))
	}
	if roomless < 100 {
		t.Errorf("%d", roomless)
	}
}
