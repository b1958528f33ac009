package witness

import (
	"math"
	"slices"
	"strings"
	"testing"

	"armoire/adt"
	"armoire/method"
	"armoire/value"
)

var (
	fits = strings.Repeat("x", 24)
	bare = method.Result{Code: method.Yes}
	no   = method.Result{Code: method.No}
)

func told(text string) method.Result { return method.Result{Code: method.Yes, Text: text} }

func counted(n int64) method.Result { return method.Result{Code: method.Yes, N: n} }

// step, money: of a call with a text, or with a number.
func step(o method.Op, a string, r method.Result) adt.Step {
	return adt.Step{Call: method.Call{Op: o, A: a}, Result: r}
}

func money(o method.Op, n int64, r method.Result) adt.Step {
	return adt.Step{Call: method.Call{Op: o, N: n}, Result: r}
}

// bind: to a text.
func bind(a, b string, r method.Result) adt.Step {
	return adt.Step{Call: method.Call{Op: method.Bind, A: a, B: b}, Result: r}
}

// rows: of a type, bare ones.
func rows(kind int, keys ...string) value.State {
	s := value.New(kind)
	for _, key := range keys {
		s.Rows = append(s.Rows, value.Row{Key: key})
	}
	return s
}

// P28.1: what a state shows, by hand; the other way round Second is First, where both orders don't fail.
func TestShows(t *testing.T) {
	acc := func(n int64) value.State { return value.State{Kind: value.Account, N: n} }
	num := func(n int64) value.State { return value.State{Kind: value.Counter, N: n} }
	insert, remove, has, deq, take := method.Insert, method.Remove, method.Has, method.Deq, method.Take
	for name, c := range map[string]struct {
		s          value.State
		x, y       adt.Step
		want, back int
	}{
		"insert and has":                       {rows(value.Set), step(insert, "a", bare), step(has, "a", no), Second, First},
		"insert and has where others are":      {rows(value.Set, "b", "c"), step(insert, "a", bare), step(has, "a", no), Second, First},
		"insert and has where it is":           {rows(value.Set, "a"), step(insert, "a", bare), step(has, "a", no), 0, 0},
		"insert and has: Yes, they don't meet": {rows(value.Set), step(insert, "a", bare), step(has, "a", bare), 0, 0},
		"insert and has of another":            {rows(value.Set), step(insert, "a", bare), step(has, "b", no), 0, 0},
		"inserts: neither behind the other":    {rows(value.Set), step(insert, "a", bare), step(insert, "a", bare), Second, Second},
		"insert and remove: No, neither":       {rows(value.Set), step(insert, "a", bare), step(remove, "a", no), Second, First},
		"insert: No, and remove":               {rows(value.Set, "a"), step(insert, "a", no), step(remove, "a", bare), First, Second},
		"debits, there is enough for both":     {acc(8), money(method.Debit, 5, bare), money(method.Debit, 3, bare), 0, 0},
		"debits, there isn't by 1":             {acc(7), money(method.Debit, 5, bare), money(method.Debit, 3, bare), Second, Second},
		"debits, one of which may not be":      {acc(4), money(method.Debit, 5, bare), money(method.Debit, 3, bare), 0, 0},
		"credit and debit: No, still not":      {acc(1), money(method.Credit, 5, bare), money(method.Debit, 7, no), 0, 0},
		"credit and debit: No, it is now":      {acc(2), money(method.Credit, 5, bare), money(method.Debit, 7, no), Second, First},
		"credit and balance of the most":       {acc(1 << 50), money(method.Credit, 1, bare), money(method.Balance, 0, counted(1<<50)), Second, First},
		"credits of the most":                  {acc(1 << 50), money(method.Credit, 1<<20, bare), money(method.Credit, 1, bare), 0, 0},
		"add and count":                        {num(math.MaxInt64), money(method.Add, 1, bare), money(method.Count, 0, counted(math.MaxInt64)), Second, First},
		"add 0 and count":                      {num(7), money(method.Add, 0, bare), money(method.Count, 0, counted(7)), 0, 0},
		"adds that go round":                   {num(math.MaxInt64), money(method.Add, 1, bare), money(method.Add, math.MinInt64, bare), 0, 0},
		"writes":                               {rows(value.Register, "c"), step(method.Write, "a", bare), step(method.Write, "b", bare), Ends, Ends},
		"writes of one text":                   {rows(value.Register, "c"), step(method.Write, "a", bare), step(method.Write, "a", bare), 0, 0},
		"read and write":                       {rows(value.Register, "c"), step(method.Read, "", told("c")), step(method.Write, "b", bare), First, Second},
		"read and write of the same":           {rows(value.Register, "c"), step(method.Read, "", told("c")), step(method.Write, "c", bare), 0, 0},
		"binds":                                {rows(value.Directory), bind("a", "x", bare), bind("a", "x", bare), Second, Second},
		"look and unbind":                      {value.State{Kind: value.Directory, Rows: []value.Row{{Key: "a", Val: "x"}}}, step(method.Look, "a", told("x")), step(method.Unbind, "a", bare), First, Second},
		"look of another text and unbind":      {value.State{Kind: value.Directory, Rows: []value.Row{{Key: "a", Val: "y"}}}, step(method.Look, "a", told("x")), step(method.Unbind, "a", bare), 0, 0},
		"enqs":                                 {rows(value.Queue, "z", "a"), step(method.Enq, "a", bare), step(method.Enq, "b", bare), Ends, Ends},
		"enqs of a full one":                   {rows(value.Queue, "a", "b", "c", "d", "e", "f", "g", "h"), step(method.Enq, "a", bare), step(method.Enq, "b", bare), Ends, Ends},
		"enqs of one text":                     {rows(value.Queue, "z"), step(method.Enq, "a", bare), step(method.Enq, "a", bare), 0, 0},
		"enq and deq":                          {rows(value.Queue, "z"), step(method.Enq, "a", bare), step(deq, "", told("z")), 0, 0},
		"enq and deq: No":                      {rows(value.Queue), step(method.Enq, "a", bare), step(deq, "", no), Second, First},
		"deqs of two that are the same":        {rows(value.Queue, "z", "z"), step(deq, "", told("z")), step(deq, "", told("z")), 0, 0},
		"deqs of two that aren't":              {rows(value.Queue, "z", "a", "z"), step(deq, "", told("z")), step(deq, "", told("z")), Second, Second},
		"takes of two that are the same":       {rows(value.Semi, "z", "z"), step(take, "", told("z")), step(take, "", told("z")), 0, 0},
		"takes of one":                         {rows(value.Semi, "a", "z"), step(take, "", told("z")), step(take, "", told("z")), Second, Second},
		"takes of unlike ones":                 {rows(value.Semi, "a", "z"), step(take, "", told("z")), step(take, "", told("a")), 0, 0},
		"puts":                                 {rows(value.Semi, "a", "z"), step(method.Put, "z", bare), step(method.Put, "b", bare), 0, 0},
		"put and take: No":                     {rows(value.Semi), step(method.Put, "z", bare), step(take, "", no), Second, First},
		"a state of another type":              {rows(value.Queue), step(method.Put, "a", bare), step(take, "", no), 0, 0},
		"steps of unlike types":                {rows(value.Queue), step(method.Enq, "a", bare), step(take, "", no), 0, 0},
		"steps that are possible nowhere":      {rows(value.Semi), step(method.Put, "a", no), step(take, "", counted(1)), 0, 0},
		"only the first one may be":            {rows(value.Set, "a"), step(remove, "a", bare), step(remove, "b", bare), 0, 0},
		"only the second one, behind it":       {rows(value.Set), step(insert, "a", bare), step(remove, "a", bare), 0, 0},
	} {
		if got := Shows(c.s, c.x, c.y); got != c.want {
			t.Errorf("%s: %d", name, got)
		}
		if got := Shows(c.s, c.y, c.x); got != c.back {
			t.Errorf("%s, the other way round: %d", name, got)
		}
	}
}

// P28.1: the chapter's example.
func TestExamples(t *testing.T) {
	insert, has := step(method.Insert, "a", bare), step(method.Has, "a", no)
	if s, shows := Find(insert, has); s.Kind != value.Set || s.N != 0 || len(s.Rows) != 0 || shows != Second {
		t.Errorf("%+v, %d", s, shows)
	}
	want := [][]int{{0, 2}, {1, 3}}
	if got := Parts(insert, money(method.Add, 1, bare), has, money(method.Count, 0, bare)); !slices.EqualFunc(got, want, slices.Equal) {
		t.Errorf("%v", got)
	}
}

// P28.1, P28.2: pairs by hand, either way round.
func TestFind(t *testing.T) {
	for name, c := range map[string]struct {
		x, y       adt.Step
		want, back int
	}{
		"write and read":                    {step(method.Write, "a", bare), step(method.Read, "", told(fits)), Second, First},
		"write and read of nothing":         {step(method.Write, "a", bare), step(method.Read, "", bare), Second, First},
		"write of nothing, and read":        {step(method.Write, "", bare), step(method.Read, "", told("b")), Second, First},
		"write and read of one text":        {step(method.Write, "a", bare), step(method.Read, "", told("a")), 0, 0},
		"writes":                            {step(method.Write, "a", bare), step(method.Write, "", bare), Ends, Ends},
		"writes of one text":                {step(method.Write, "a", bare), step(method.Write, "a", bare), 0, 0},
		"add and count":                     {money(method.Add, -1, bare), money(method.Count, 0, counted(math.MinInt64)), Second, First},
		"add 0 and count":                   {money(method.Add, 0, bare), money(method.Count, 0, counted(5)), 0, 0},
		"adds":                              {money(method.Add, -1, bare), money(method.Add, 1, bare), 0, 0},
		"credit and balance of 0":           {money(method.Credit, 1<<20, bare), money(method.Balance, 0, bare), Second, First},
		"credit and balance of the most":    {money(method.Credit, 1<<20, bare), money(method.Balance, 0, counted(1<<50)), Second, First},
		"credit and debit: No":              {money(method.Credit, 1, bare), money(method.Debit, 1<<20, no), Second, First},
		"credit of more and debit: No":      {money(method.Credit, 1<<20, bare), money(method.Debit, 1, no), Second, First},
		"credit and debit: Yes":             {money(method.Credit, 1<<20, bare), money(method.Debit, 1, bare), 0, 0},
		"debits":                            {money(method.Debit, 1, bare), money(method.Debit, 1<<20, bare), Second, Second},
		"debit and balance of as much":      {money(method.Debit, 9, bare), money(method.Balance, 0, counted(9)), Second, First},
		"debit and balance of 1 less":       {money(method.Debit, 9, bare), money(method.Balance, 0, counted(8)), 0, 0},
		"debit and balance of the most":     {money(method.Debit, 9, bare), money(method.Balance, 0, counted(1<<50)), Second, First},
		"inserts":                           {step(method.Insert, fits, bare), step(method.Insert, fits, bare), Second, Second},
		"insert of nothing and remove: No":  {step(method.Insert, "", bare), step(method.Remove, "", no), Second, First},
		"remove and insert: No":             {step(method.Remove, "a", bare), step(method.Insert, "a", no), Second, First},
		"insert and remove":                 {step(method.Insert, "a", bare), step(method.Remove, "a", bare), 0, 0},
		"binds to unlike texts":             {bind("a", "x", bare), bind("a", "y", bare), Second, Second},
		"unbind and look":                   {step(method.Unbind, "a", bare), step(method.Look, "a", told(fits)), Second, First},
		"unbind and look of nothing there":  {step(method.Unbind, "a", bare), step(method.Look, "a", bare), Second, First},
		"unbind and bind: No":               {step(method.Unbind, "", bare), bind("", fits, no), Second, First},
		"looks":                             {step(method.Look, "a", told("x")), step(method.Look, "a", told("y")), 0, 0},
		"enqs":                              {step(method.Enq, "", bare), step(method.Enq, "a", bare), Ends, Ends},
		"enq and deq: No":                   {step(method.Enq, "", bare), step(method.Deq, "", no), Second, First},
		"deqs of nothing":                   {step(method.Deq, "", bare), step(method.Deq, "", bare), Second, Second},
		"deqs of unlike texts":              {step(method.Deq, "", told("a")), step(method.Deq, "", told("b")), 0, 0},
		"put and take: No":                  {step(method.Put, "", bare), step(method.Take, "", no), Second, First},
		"takes":                             {step(method.Take, "", told(fits)), step(method.Take, "", told(fits)), Second, Second},
		"takes of nothing":                  {step(method.Take, "", bare), step(method.Take, "", bare), Second, Second},
		"puts":                              {step(method.Put, "a", bare), step(method.Put, "b", bare), 0, 0},
		"of unlike types":                   {step(method.Put, "a", bare), step(method.Deq, "", no), 0, 0},
		"of unlike types that are numbers":  {money(method.Add, 1, bare), money(method.Balance, 0, counted(1)), 0, 0},
		"one that is possible nowhere":      {step(method.Put, "a", no), step(method.Take, "", no), 0, 0},
		"a balance below 0":                 {money(method.Credit, 1, bare), money(method.Balance, 0, counted(-1)), 0, 0},
		"a count with a text, and an add":   {money(method.Add, 1, bare), money(method.Count, 0, told("a")), 0, 0},
		"a look with a number, and unbind":  {step(method.Unbind, "a", bare), step(method.Look, "a", counted(1)), 0, 0},
		"what is asked is another's answer": {step(method.Enq, "a", bare), step(method.Deq, "", told("a")), 0, 0},
	} {
		if got := mustFind(t, c.x, c.y); got != c.want {
			t.Errorf("%s: %d", name, got)
		}
		if got := mustFind(t, c.y, c.x); got != c.back {
			t.Errorf("%s, the other way round: %d", name, got)
		}
	}
}

// P28.1: by hand: the least later place, then the least earlier one.
func TestClash(t *testing.T) {
	put, none, take := step(method.Put, "a", bare), step(method.Take, "", no), step(method.Take, "", told("a"))
	enq, enqB := step(method.Enq, "a", bare), step(method.Enq, "b", bare)
	for name, c := range map[string]struct {
		l    []adt.Step
		i, j int
	}{
		"none":                             {nil, -1, -1},
		"an empty list":                    {[]adt.Step{}, -1, -1},
		"one":                              {[]adt.Step{take}, -1, -1},
		"two that don't":                   {[]adt.Step{put, take}, -1, -1},
		"two that do":                      {[]adt.Step{none, put}, 0, 1},
		"two that are the same":            {[]adt.Step{take, take}, 0, 1},
		"the later one is the least":       {[]adt.Step{enq, put, none, enqB}, 1, 2},
		"also where the earlier one isn't": {[]adt.Step{put, enq, enqB, none}, 1, 2},
		"of those the earlier one":         {[]adt.Step{enq, put, put, enq, put, none}, 1, 5},
		"at the end":                       {[]adt.Step{put, put, enq, enq, put, enqB}, 2, 5},
		"many that don't":                  {[]adt.Step{put, put, enq, enq, put, take}, -1, -1},
	} {
		if i, j := Clash(c.l...); i != c.i || j != c.j {
			t.Errorf("%s: %d, %d", name, i, j)
		}
	}
}

// P28.1: by hand: parts hang together also by rows of others, whichever stands first.
func TestParts(t *testing.T) {
	put, none, take := step(method.Put, "a", bare), step(method.Take, "", no), step(method.Take, "", told("a"))
	enq, enqB, empty := step(method.Enq, "a", bare), step(method.Enq, "b", bare), step(method.Deq, "", no)
	balance := func(n int64) adt.Step { return money(method.Balance, 0, counted(n)) }
	credit, debit := money(method.Credit, 1, bare), money(method.Debit, 5, bare)
	for name, c := range map[string]struct {
		l    []adt.Step
		want [][]int
	}{
		"none":                         {nil, nil},
		"an empty list":                {[]adt.Step{}, nil},
		"one":                          {[]adt.Step{put}, [][]int{{0}}},
		"two that don't":               {[]adt.Step{put, take}, [][]int{{0}, {1}}},
		"two that do":                  {[]adt.Step{put, none}, [][]int{{0, 1}}},
		"the same again":               {[]adt.Step{take, put, take, put}, [][]int{{0, 2}, {1}, {3}}},
		"by one that is behind them":   {[]adt.Step{put, put, enq, put, none}, [][]int{{0, 1, 3, 4}, {2}}},
		"by one that is ahead":         {[]adt.Step{none, put, enq, put}, [][]int{{0, 1, 3}, {2}}},
		"by a row of others":           {[]adt.Step{debit, balance(4), put, credit, balance(9)}, [][]int{{0, 1, 3, 4}, {2}}},
		"a row that goes back":         {[]adt.Step{balance(4), debit, put, balance(9), credit}, [][]int{{0, 1, 3, 4}, {2}}},
		"without the one between":      {[]adt.Step{debit, balance(4), put, balance(9)}, [][]int{{0, 3}, {1}, {2}}},
		"two parts woven":              {[]adt.Step{enq, put, enqB, none, empty, put}, [][]int{{0, 2, 4}, {1, 3, 5}}},
		"one that is possible nowhere": {[]adt.Step{step(method.Put, "a", no), none, put}, [][]int{{0}, {1, 2}}},
	} {
		if got := Parts(c.l...); !slices.EqualFunc(got, c.want, slices.Equal) {
			t.Errorf("%s: %v", name, got)
		}
	}
}
