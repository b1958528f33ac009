package commute

import (
	"math"
	"slices"
	"strings"
	"testing"

	"armoire/adt"
	"armoire/api"
	"armoire/method"
)

var (
	fits = strings.Repeat("x", 24)
	bare = method.Result{Code: method.Yes}
	no   = method.Result{Code: method.No}
)

func told(text string) method.Result { return method.Result{Code: method.Yes, Text: text} }

func counted(n int64) method.Result { return method.Result{Code: method.Yes, N: n} }

// step, money: of a call with a text, or with a number.
func step(o method.Op, a string, r method.Result) adt.Step {
	return adt.Step{Call: method.Call{Op: o, A: a}, Result: r}
}

func money(o method.Op, n int64, r method.Result) adt.Step {
	return adt.Step{Call: method.Call{Op: o, N: n}, Result: r}
}

// bind: to a text.
func bind(a, b string, r method.Result) adt.Step {
	return adt.Step{Call: method.Call{Op: method.Bind, A: a, B: b}, Result: r}
}

// P14.1, P14.2: row by row what the chapter's table says, and what it doesn't.
func TestTable(t *testing.T) {
	read, write := method.Read, method.Write
	add, count := method.Add, method.Count
	credit, debit, balance := method.Credit, method.Debit, method.Balance
	insert, remove, has := method.Insert, method.Remove, method.Has
	unbind, look := method.Unbind, method.Look
	enq, deq, put, take := method.Enq, method.Deq, method.Put, method.Take
	for name, c := range map[string]struct {
		x, y adt.Step
		want bool
	}{
		"read of another text than is written":   {step(read, "", told("b")), step(write, "a", bare), true},
		"read of the text that is written":       {step(read, "", told("a")), step(write, "a", bare), false},
		"read of nothing, and write of a text":   {step(read, "", bare), step(write, "a", bare), true},
		"read of a text, and write of nothing":   {step(read, "", told("a")), step(write, "", bare), true},
		"read, and write, of nothing":            {step(read, "", bare), step(write, "", bare), false},
		"read of a text that only begins so":     {step(read, "", told(fits)), step(write, fits[1:], bare), true},
		"read and write of 24 bytes":             {step(read, "", told(fits)), step(write, fits, bare), false},
		"writes of unlike texts":                 {step(write, "a", bare), step(write, "b", bare), true},
		"writes of one text":                     {step(write, "a", bare), step(write, "a", bare), false},
		"reads":                                  {step(read, "", told("a")), step(read, "", told("a")), false},
		"reads of unlike texts":                  {step(read, "", told("a")), step(read, "", told("b")), false},
		"add and count":                          {money(add, -2, bare), money(count, 0, counted(7)), true},
		"add and count of 0":                     {money(add, 1, bare), money(count, 0, bare), true},
		"add of the greatest, count of the last": {money(add, math.MaxInt64, bare), money(count, 0, counted(math.MaxInt64)), true},
		"add and count of the least":             {money(add, math.MinInt64, bare), money(count, 0, counted(math.MinInt64)), true},
		"add 0 and count":                        {money(add, 0, bare), money(count, 0, counted(7)), false},
		"adds":                                   {money(add, 3, bare), money(add, -3, bare), false},
		"counts":                                 {money(count, 0, counted(7)), money(count, 0, counted(7)), false},
		"unlike counts":                          {money(count, 0, counted(7)), money(count, 0, counted(8)), false},
		"credit and balance":                     {money(credit, 1, bare), money(balance, 0, counted(3)), true},
		"credit and balance of 0":                {money(credit, 1<<20, bare), money(balance, 0, bare), true},
		"credit and balance of the most":         {money(credit, 1, bare), money(balance, 0, counted(1<<50)), true},
		"credit and debit of more: No":           {money(credit, 1, bare), money(debit, 1<<20, no), true},
		"credit and debit of 1: No":              {money(credit, 1, bare), money(debit, 1, no), true},
		"credit and debit: Yes":                  {money(credit, 1, bare), money(debit, 1, bare), false},
		"credits":                                {money(credit, 1, bare), money(credit, 1, bare), false},
		"debit: Yes, and balance of more":        {money(debit, 3, bare), money(balance, 0, counted(4)), true},
		"debit: Yes, and balance of as much":     {money(debit, 3, bare), money(balance, 0, counted(3)), true},
		"debit: Yes, and balance of 1 less":      {money(debit, 3, bare), money(balance, 0, counted(2)), false},
		"debit: Yes, and balance of 0":           {money(debit, 1, bare), money(balance, 0, bare), false},
		"debit: No, and balance":                 {money(debit, 3, no), money(balance, 0, counted(2)), false},
		"debit: No, and balance of more":         {money(debit, 3, no), money(balance, 0, counted(4)), false},
		"debits: Yes":                            {money(debit, 3, bare), money(debit, 1<<20, bare), true},
		"the same debits: Yes":                   {money(debit, 1, bare), money(debit, 1, bare), true},
		"debits: Yes and No":                     {money(debit, 3, bare), money(debit, 5, no), false},
		"debits: Yes, and No of less":            {money(debit, 5, bare), money(debit, 3, no), false},
		"debits: No":                             {money(debit, 3, no), money(debit, 3, no), false},
		"balances":                               {money(balance, 0, counted(1)), money(balance, 0, counted(1)), false},
		"insert: Yes, twice":                     {step(insert, "a", bare), step(insert, "a", bare), true},
		"insert: Yes, of unlike texts":           {step(insert, "a", bare), step(insert, "b", bare), false},
		"insert: Yes and No":                     {step(insert, "a", bare), step(insert, "a", no), false},
		"insert: Yes, and remove: No":            {step(insert, "a", bare), step(remove, "a", no), true},
		"insert: Yes, and remove: Yes":           {step(insert, "a", bare), step(remove, "a", bare), false},
		"insert: Yes, and has: No":               {step(insert, "a", bare), step(has, "a", no), true},
		"insert: Yes, and has: Yes":              {step(insert, "a", bare), step(has, "a", bare), false},
		"insert: Yes, and has of another: No":    {step(insert, "a", bare), step(has, "b", no), false},
		"insert of nothing, and has: No":         {step(insert, "", bare), step(has, "", no), true},
		"insert: No, and has: Yes":               {step(insert, "a", no), step(has, "a", bare), false},
		"insert: No, and remove: Yes":            {step(insert, "a", no), step(remove, "a", bare), true},
		"insert: No, twice":                      {step(insert, "a", no), step(insert, "a", no), false},
		"remove: Yes, twice":                     {step(remove, "a", bare), step(remove, "a", bare), true},
		"remove: Yes and No":                     {step(remove, "a", bare), step(remove, "a", no), false},
		"remove: Yes, and has: Yes":              {step(remove, "a", bare), step(has, "a", bare), true},
		"remove: Yes, and has: No":               {step(remove, "a", bare), step(has, "a", no), false},
		"remove: No, and has: No":                {step(remove, "a", no), step(has, "a", no), false},
		"bind: Yes, twice":                       {bind("a", "x", bare), bind("a", "y", bare), true},
		"bind: Yes, twice to the same":           {bind("a", "x", bare), bind("a", "x", bare), true},
		"bind: Yes, of unlike texts":             {bind("a", "x", bare), bind("b", "x", bare), false},
		"bind: Yes and No":                       {bind("a", "x", bare), bind("a", "x", no), false},
		"bind: Yes, and look: No":                {bind("a", "x", bare), step(look, "a", no), true},
		"bind: Yes, and look of it":              {bind("a", "x", bare), step(look, "a", told("x")), false},
		"bind: Yes, and unbind: No":              {bind("a", "x", bare), step(unbind, "a", no), true},
		"bind: Yes, and unbind: Yes":             {bind("a", "x", bare), step(unbind, "a", bare), false},
		"bind: No, and unbind: Yes":              {bind("a", "x", no), step(unbind, "a", bare), true},
		"bind: No, and look":                     {bind("a", "x", no), step(look, "a", told("y")), false},
		"unbind: Yes, and look":                  {step(unbind, "a", bare), step(look, "a", told("y")), true},
		"unbind: Yes, and look of nothing there": {step(unbind, "a", bare), step(look, "a", bare), true},
		"unbind: Yes, and look: No":              {step(unbind, "a", bare), step(look, "a", no), false},
		"unbind: Yes, and look of another":       {step(unbind, "a", bare), step(look, "b", told("y")), false},
		"looks":                                  {step(look, "a", told("x")), step(look, "a", told("y")), false},
		"enqs of unlike texts":                   {step(enq, "a", bare), step(enq, "b", bare), true},
		"enqs of one text":                       {step(enq, "a", bare), step(enq, "a", bare), false},
		"enq and deq: No":                        {step(enq, "a", bare), step(deq, "", no), true},
		"enq and deq":                            {step(enq, "a", bare), step(deq, "", told("b")), false},
		"enq and deq of the same":                {step(enq, "a", bare), step(deq, "", told("a")), false},
		"enq and deq of nothing":                 {step(enq, "", bare), step(deq, "", bare), false},
		"deqs of one text":                       {step(deq, "", told("b")), step(deq, "", told("b")), true},
		"deqs of nothing":                        {step(deq, "", bare), step(deq, "", bare), true},
		"deqs of unlike texts":                   {step(deq, "", told("b")), step(deq, "", told("a")), false},
		"deqs: a text and No":                    {step(deq, "", told("b")), step(deq, "", no), false},
		"deqs: nothing and No":                   {step(deq, "", bare), step(deq, "", no), false},
		"deqs: No":                               {step(deq, "", no), step(deq, "", no), false},
		"puts of unlike texts":                   {step(put, "a", bare), step(put, "b", bare), false},
		"puts of one text":                       {step(put, "a", bare), step(put, "a", bare), false},
		"put and take: No":                       {step(put, "a", bare), step(take, "", no), true},
		"put and take":                           {step(put, "a", bare), step(take, "", told("a")), false},
		"takes of one text":                      {step(take, "", told("a")), step(take, "", told("a")), true},
		"takes of 24 bytes":                      {step(take, "", told(fits)), step(take, "", told(fits)), true},
		"takes of unlike texts":                  {step(take, "", told("a")), step(take, "", told("b")), false},
		"takes: a text and No":                   {step(take, "", told("a")), step(take, "", no), false},
		"takes: No":                              {step(take, "", no), step(take, "", no), false},
		"of unlike types: put and enq":           {step(put, "a", bare), step(enq, "b", bare), false},
		"of unlike types: enq and take":          {step(enq, "a", bare), step(take, "", no), false},
		"of unlike types: insert and bind":       {step(insert, "a", bare), bind("a", "", bare), false},
		"of unlike types: add and balance":       {money(add, 1, bare), money(balance, 0, counted(1)), false},
		"of unlike types: insert and look":       {step(insert, "a", bare), step(look, "a", no), false},
		"not possible: credit, No":               {money(credit, 1, no), money(balance, 0, counted(1)), false},
		"not possible: a balance below 0":        {money(credit, 1, bare), money(balance, 0, counted(-1)), false},
		"not possible: has with a text":          {step(insert, "a", bare), step(has, "a", method.Result{Code: method.No, Text: "a"}), false},
		"not possible: insert with a number":     {step(insert, "a", counted(1)), step(has, "a", no), false},
		"not possible: write, No":                {step(write, "a", no), step(write, "b", bare), false},
		"not possible: deqs with numbers":        {step(deq, "", counted(1)), step(deq, "", counted(1)), false},
		"not possible: count with a text":        {money(add, 1, bare), money(count, 0, told("a")), false},
	} {
		if got := Conflict(c.x, c.y); got != c.want {
			t.Errorf("%s: %v", name, got)
		}
		if got := Conflict(c.y, c.x); got != c.want {
			t.Errorf("%s, the other way round: %v", name, got)
		}
	}
}

// shapes: of each op the answers that there are in some state: y: bare Yes; n: bare No; t: Yes with any text; c: Yes with any number; b: with one from 0 on.
var shapes = map[string]string{
	"read": "t", "write": "y", "add": "y", "count": "c", "credit": "y", "debit": "yn", "balance": "b",
	"insert": "yn", "remove": "yn", "has": "yn", "bind": "yn", "unbind": "yn", "look": "tn",
	"enq": "y", "deq": "tn", "put": "y", "take": "tn",
}

// fit: is an answer of one of the shapes?
func fit(shape string, r method.Result) bool {
	yes := r.Code == method.Yes
	return strings.Contains(shape, "y") && yes && r.Text == "" && r.N == 0 ||
		strings.Contains(shape, "n") && r.Code == method.No && r.Text == "" && r.N == 0 ||
		strings.Contains(shape, "t") && yes && r.N == 0 ||
		strings.Contains(shape, "c") && yes && r.Text == "" ||
		strings.Contains(shape, "b") && yes && r.Text == "" && r.N >= 0
}

// P14.1: Possible of each op with each answer that may be; where it isn't, Conflict with nothing.
func TestPossible(t *testing.T) {
	texts := []string{"", "a", "\x00", fits}
	numbers := []int64{math.MinInt64, -1, 0, 1, 1 << 20, 1 << 50, math.MaxInt64}
	others := []adt.Step{step(method.Write, "q", bare), money(method.Add, 1, bare), money(method.Credit, 1, bare), money(method.Debit, 1, bare), step(method.Insert, "a", bare), step(method.Remove, "a", bare),
		bind("a", "", bare), step(method.Unbind, "a", bare), step(method.Enq, "q", bare), step(method.Deq, "", bare), step(method.Put, "q", bare), step(method.Take, "", bare)}
	is, isnt := map[method.Op]int{}, map[method.Op]int{}
	for o := method.Op(1); o <= method.Last; o++ {
		for _, x := range stepsOf(o.Kind(), texts, numbers) {
			if x.Call.Op != o {
				continue
			}
			want := fit(shapes[o.Word()], x.Result)
			if got := Possible(x); got != want {
				t.Fatalf("%s, %+v: %v", o.Word(), x, got)
			}
			if want {
				is[o]++
				continue
			}
			isnt[o]++
			if at := Among(x, append(others, x)...); at != -1 {
				t.Fatalf("%s, %+v: conflicts with %+v", o.Word(), x, append(others, x)[at])
			}
		}
		if is[o] == 0 || isnt[o] == 0 {
			t.Errorf("%s: %d, %d", o.Word(), is[o], isnt[o])
		}
	}
}

// P14.1: the place of the first one that conflicts, of none, one, many.
func TestAmong(t *testing.T) {
	take := step(method.Take, "", told("a"))
	put, putB, none := step(method.Put, "a", bare), step(method.Put, "b", bare), step(method.Take, "", no)
	for name, c := range map[string]struct {
		x    adt.Step
		l    []adt.Step
		want int
	}{
		"none":                      {take, nil, -1},
		"an empty list":             {take, []adt.Step{}, -1},
		"one that does":             {take, []adt.Step{take}, 0},
		"one that doesn't":          {take, []adt.Step{put}, -1},
		"the last one":              {take, []adt.Step{put, none, putB, take}, 3},
		"the first of two":          {take, []adt.Step{put, take, none, take}, 1},
		"all":                       {none, []adt.Step{put, putB, put}, 0},
		"many that don't":           {put, []adt.Step{take, take, put, putB, take, put}, -1},
		"others of another type":    {put, []adt.Step{step(method.Deq, "", no), step(method.Enq, "b", bare), none}, 2},
		"one that isn't possible":   {put, []adt.Step{step(method.Take, "", counted(1)), none}, 1},
		"asked of what can't be":    {step(method.Take, "", counted(1)), []adt.Step{put, none, take}, -1},
		"as the second one as well": {none, []adt.Step{none, take, put}, 2},
	} {
		was := slices.Clone(c.l)
		if got := Among(c.x, c.l...); got != c.want {
			t.Errorf("%s: %d, not %d", name, got, c.want)
		}
		if !slices.Equal(c.l, was) {
			t.Errorf("%s: now %+v", name, c.l)
		}
	}
}

// P14.1: Among of long lists is the first place at which Conflict says so.
func TestAmongAny(t *testing.T) {
	var all []adt.Step
	for kind := 1; kind <= 7; kind++ {
		for k, x := range stepsOf(kind, []string{"", "a"}, []int64{0, 1}) {
			if Possible(x) || k%5 == 0 {
				all = append(all, x)
			}
		}
	}
	found := map[bool]int{}
	for from := range all {
		l := append(slices.Clone(all[from:]), all[:from/2]...)
		for k, x := range all {
			if (from+k)%7 > 0 {
				continue
			}
			got := Among(x, l...)
			if want := slices.IndexFunc(l, func(y adt.Step) bool { return Conflict(x, y) }); got != want {
				t.Fatalf("%+v: %d, not %d", x, got, want)
			}
			found[got >= 0]++
		}
	}
	if found[true] < 100 || found[false] < 100 {
		t.Errorf("%v", found)
	}
}

// P1: what may not be asked is ruled out, but what is no op is possible in no state.
func TestNoOp(t *testing.T) {
	for _, o := range []method.Op{0, -1, method.Last + 1} {
		x := step(o, "", bare)
		if x.Call.Check() != api.ErrKind || Possible(x) || Conflict(x, x) || Among(x, x) != -1 {
			t.Errorf("%d", o)
		}
	}
}
