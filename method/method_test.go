package method

import (
	"fmt"
	"math"
	"slices"
	"strings"
	"testing"

	"armoire/api"
	"armoire/value"
)

var (
	fits = strings.Repeat("x", 24)
	long = strings.Repeat("x", 25)
)

// The ops by the chapter's table: words, in their order, and those that have an argument.
const (
	allWords = "read write add count credit debit balance insert remove has bind unbind look enq deq put take"
	haveA    = " write insert remove has bind unbind look enq put "
	haveB    = " bind "
	haveN    = " add credit debit "
)

// says: does a list of words name an op?
func says(list string, o Op) bool {
	at := int(o) - 1
	words := strings.Fields(allWords)
	return at >= 0 && at < len(words) && strings.Contains(list, " "+words[at]+" ")
}

// noOps: numbers that are no op's.
var noOps = []Op{math.MinInt, -17, -1, 0, 18, 19, 256 + 1, 1<<32 + 8, math.MaxInt}

// P12.1: the ops' numbers, the limits, the codes.
func TestNumbers(t *testing.T) {
	for at, o := range []Op{Read, Write, Add, Count, Credit, Debit, Balance, Insert, Remove, Has, Bind, Unbind, Look, Enq, Deq, Put, Take} {
		if int(o) != at+1 {
			t.Errorf("%d: %d", at+1, o)
		}
	}
	if Take != 17 || Last != Take || MostN != 1048576 || Yes != 1 || No != 2 {
		t.Error("constants")
	}
}

// P12.1: each op's word and back, and what is neither.
func TestWords(t *testing.T) {
	for at, word := range strings.Fields(allWords) {
		o := Op(at + 1)
		if o.Word() != word || Named(word) != o {
			t.Errorf("%d: %q, %d", o, o.Word(), Named(word))
		}
		for _, other := range []string{word + " ", " " + word, word + "\x00", strings.ToUpper(word), word[1:], word[:len(word)-1], word + word} {
			if Named(other) != 0 && !slices.Contains(strings.Fields(allWords), other) {
				t.Errorf("Named(%q): %d", other, Named(other))
			}
		}
	}
	if Named("unbind") != Unbind || Named("bind") != Bind {
		t.Error("bind")
	}
	for _, o := range noOps {
		if o.Word() != "" {
			t.Errorf("%d: %q", o, o.Word())
		}
	}
	for _, word := range []string{"", "register", "queue", "get", "1", "\xff", "Read"} {
		if Named(word) != 0 {
			t.Errorf("Named(%q): %d", word, Named(word))
		}
	}
}

// P12.1: each op's type.
func TestKind(t *testing.T) {
	for kind, l := range map[int][]Op{
		value.Register:  {Read, Write},
		value.Counter:   {Add, Count},
		value.Account:   {Credit, Debit, Balance},
		value.Set:       {Insert, Remove, Has},
		value.Directory: {Bind, Unbind, Look},
		value.Queue:     {Enq, Deq},
		value.Semi:      {Put, Take},
	} {
		for o := Op(1); o <= 17; o++ {
			if (o.Kind() == kind) != slices.Contains(l, o) {
				t.Errorf("%s: %d", o.Word(), o.Kind())
			}
		}
	}
	for _, o := range noOps {
		if o.Kind() != 0 {
			t.Errorf("%d: %d", o, o.Kind())
		}
	}
}

// firstOfCall: Check's answer, by the chapter's words.
func firstOfCall(c Call) api.Errno {
	if c.Op < 1 || c.Op > 17 {
		return api.ErrKind
	}
	if !says(haveA, c.Op) && c.A != "" || !says(haveB, c.Op) && c.B != "" || !says(haveN, c.Op) && c.N != 0 {
		return api.ErrForm
	}
	if len(c.A) > 24 || len(c.B) > 24 {
		return api.ErrBig
	}
	if (c.Op == 5 || c.Op == 6) && (c.N <= 0 || c.N > 1<<20) {
		return api.ErrArg
	}
	return api.OK
}

// P12.1: Check of a call: what may be asked, and each error, ahead of those behind it.
func TestCallCheck(t *testing.T) {
	for name, x := range map[string]struct {
		c    Call
		want api.Errno
	}{
		"zero":                           {Call{}, api.ErrKind},
		"below":                          {Call{Op: -1}, api.ErrKind},
		"beyond":                         {Call{Op: 18}, api.ErrKind},
		"far beyond":                     {Call{Op: 256 + Read}, api.ErrKind},
		"no op, all arguments":           {Call{0, long, long, -1}, api.ErrKind},
		"no op, long":                    {Call{Op: 18, A: long}, api.ErrKind},
		"read":                           {Call{Op: Read}, api.OK},
		"read, A":                        {Call{Op: Read, A: "a"}, api.ErrForm},
		"read, A too long":               {Call{Op: Read, A: long}, api.ErrForm},
		"read, N":                        {Call{Op: Read, N: 1}, api.ErrForm},
		"write":                          {Call{Op: Write, A: "a"}, api.OK},
		"write, no text":                 {Call{Op: Write}, api.OK},
		"write, as long as may be":       {Call{Op: Write, A: fits}, api.OK},
		"write, long":                    {Call{Op: Write, A: long}, api.ErrBig},
		"write, B":                       {Call{Op: Write, A: "a", B: "b"}, api.ErrForm},
		"write, long, and B":             {Call{Op: Write, A: long, B: "b"}, api.ErrForm},
		"write, long, and N":             {Call{Op: Write, A: long, N: -1}, api.ErrForm},
		"add":                            {Call{Op: Add, N: 7}, api.OK},
		"add 0":                          {Call{Op: Add}, api.OK},
		"add the least":                  {Call{Op: Add, N: math.MinInt64}, api.OK},
		"add the greatest":               {Call{Op: Add, N: math.MaxInt64}, api.OK},
		"add, A":                         {Call{Op: Add, A: "a", N: 1}, api.ErrForm},
		"count":                          {Call{Op: Count}, api.OK},
		"count, N":                       {Call{Op: Count, N: 1}, api.ErrForm},
		"credit 1":                       {Call{Op: Credit, N: 1}, api.OK},
		"credit the most":                {Call{Op: Credit, N: 1 << 20}, api.OK},
		"credit 0":                       {Call{Op: Credit}, api.ErrArg},
		"credit less":                    {Call{Op: Credit, N: -1}, api.ErrArg},
		"credit more":                    {Call{Op: Credit, N: 1<<20 + 1}, api.ErrArg},
		"credit 0, A":                    {Call{Op: Credit, A: "a"}, api.ErrForm},
		"credit, B":                      {Call{Op: Credit, B: "b", N: 1}, api.ErrForm},
		"credit, A too long":             {Call{Op: Credit, A: long, N: 1}, api.ErrForm},
		"debit 1":                        {Call{Op: Debit, N: 1}, api.OK},
		"debit the most":                 {Call{Op: Debit, N: 1 << 20}, api.OK},
		"debit 0":                        {Call{Op: Debit}, api.ErrArg},
		"debit the least":                {Call{Op: Debit, N: math.MinInt64}, api.ErrArg},
		"debit the greatest":             {Call{Op: Debit, N: math.MaxInt64}, api.ErrArg},
		"balance":                        {Call{Op: Balance}, api.OK},
		"balance, N":                     {Call{Op: Balance, N: 1}, api.ErrForm},
		"insert, no text":                {Call{Op: Insert}, api.OK},
		"insert, long":                   {Call{Op: Insert, A: long}, api.ErrBig},
		"remove, N":                      {Call{Op: Remove, A: "a", N: 1}, api.ErrForm},
		"has, B":                         {Call{Op: Has, B: "b"}, api.ErrForm},
		"bind":                           {Call{Op: Bind, A: fits, B: fits}, api.OK},
		"bind, neither":                  {Call{Op: Bind}, api.OK},
		"bind, long A":                   {Call{Op: Bind, A: long}, api.ErrBig},
		"bind, long B":                   {Call{Op: Bind, B: long}, api.ErrBig},
		"bind, long, and N":              {Call{Op: Bind, A: long, B: long, N: 1}, api.ErrForm},
		"unbind, B":                      {Call{Op: Unbind, A: "a", B: "b"}, api.ErrForm},
		"look, A":                        {Call{Op: Look, A: "\x00\xff"}, api.OK},
		"look, long":                     {Call{Op: Look, A: long}, api.ErrBig},
		"enq, N":                         {Call{Op: Enq, N: 1}, api.ErrForm},
		"enq, long":                      {Call{Op: Enq, A: long}, api.ErrBig},
		"deq, A":                         {Call{Op: Deq, A: "a"}, api.ErrForm},
		"put, B":                         {Call{Op: Put, B: "b"}, api.ErrForm},
		"take":                           {Call{Op: Take}, api.OK},
		"take, A":                        {Call{Op: Take, A: "a"}, api.ErrForm},
		"take, N":                        {Call{Op: Take, N: 1}, api.ErrForm},
		"far more bytes than may be":     {Call{Op: Put, A: strings.Repeat("x", 1<<16)}, api.ErrBig},
		"so many that a byte is too few": {Call{Op: Put, A: strings.Repeat("x", 256)}, api.ErrBig},
	} {
		if e := x.c.Check(); e != x.want || firstOfCall(x.c) != x.want {
			t.Errorf("%s: %d, not %d (%d)", name, e, x.want, firstOfCall(x.c))
		}
	}
}

// P12.1: Check of each op with all sorts of arguments.
func TestCallCheckAny(t *testing.T) {
	texts := []string{"", "a", fits, long}
	counts := map[api.Errno]int{}
	ops := slices.Clone(noOps)
	for o := Op(1); o <= 17; o++ {
		ops = append(ops, o)
	}
	for _, o := range ops {
		for _, a := range texts {
			for _, b := range texts {
				for _, n := range []int64{math.MinInt64, -1 << 20, -1, 0, 1, 2, 1<<20 - 1, 1 << 20, 1<<20 + 1, 1<<32 + 1, math.MaxInt64} {
					c := Call{o, a, b, n}
					if e := c.Check(); e != firstOfCall(c) {
						t.Errorf("%+v: %d, not %d", c, e, firstOfCall(c))
					}
					counts[firstOfCall(c)]++
				}
			}
		}
	}
	if len(counts) != 5 {
		t.Errorf("%v", counts)
	}
}

// firstOfResult: Check's answer, by the chapter's words.
func firstOfResult(r Result) api.Errno {
	if r.Code != 1 && r.Code != 2 {
		return api.ErrKind
	}
	if len(r.Text) > 24 {
		return api.ErrBig
	}
	if r.Text != "" && r.N != 0 {
		return api.ErrForm
	}
	return api.OK
}

// P12.1: Check of an answer: what may be, and each error, ahead of those behind it.
func TestResultCheck(t *testing.T) {
	for name, x := range map[string]struct {
		r    Result
		want api.Errno
	}{
		"zero":                    {Result{}, api.ErrKind},
		"below":                   {Result{Code: -1}, api.ErrKind},
		"beyond":                  {Result{Code: 3}, api.ErrKind},
		"far beyond":              {Result{Code: 256 + Yes}, api.ErrKind},
		"no code, long":           {Result{Text: long}, api.ErrKind},
		"no code, both":           {Result{Text: "a", N: 1}, api.ErrKind},
		"yes":                     {Result{Code: Yes}, api.OK},
		"no":                      {Result{Code: No}, api.OK},
		"yes, a text":             {Result{Code: Yes, Text: fits}, api.OK},
		"no, a text":              {Result{Code: No, Text: "a"}, api.OK},
		"yes, a number":           {Result{Code: Yes, N: math.MinInt64}, api.OK},
		"no, a number":            {Result{Code: No, N: math.MaxInt64}, api.OK},
		"yes, long":               {Result{Code: Yes, Text: long}, api.ErrBig},
		"no, long, and a number":  {Result{Code: No, Text: long, N: 1}, api.ErrBig},
		"yes, both":               {Result{Code: Yes, Text: "a", N: 1}, api.ErrForm},
		"no, both":                {Result{Code: No, Text: fits, N: -1}, api.ErrForm},
		"yes, a byte 00, and one": {Result{Code: Yes, Text: "\x00", N: 1}, api.ErrForm},
	} {
		if e := x.r.Check(); e != x.want || firstOfResult(x.r) != x.want {
			t.Errorf("%s: %d, not %d", name, e, x.want)
		}
	}
	for _, code := range []int{math.MinInt, -2, -1, 0, 1, 2, 3, 256 + 1, 1<<32 + 2, math.MaxInt} {
		for _, text := range []string{"", "a", fits, long, strings.Repeat("x", 257)} {
			for _, n := range []int64{math.MinInt64, -1, 0, 1, math.MaxInt64} {
				if r := (Result{code, text, n}); r.Check() != firstOfResult(r) {
					t.Errorf("%+v: %d", r, r.Check())
				}
			}
		}
	}
}

// P12.1: Changes and Growth of each op with each code, and of no op.
func TestChanges(t *testing.T) {
	always := " write credit enq put "
	ifYes := " debit insert remove bind unbind deq take "
	more := " insert bind enq put "
	less := " remove unbind deq take "
	ops := slices.Clone(noOps)
	for o := Op(1); o <= 17; o++ {
		ops = append(ops, o)
	}
	seen := map[string]int{}
	for _, o := range ops {
		for _, code := range []int{-1, 0, Yes, No, 3} {
			for _, n := range []int64{math.MinInt64, -1, 0, 1, math.MaxInt64} {
				for _, r := range []Result{{Code: code}, {Code: code, Text: "a"}, {Code: code, N: 1}} {
					c := Call{Op: o, A: "a", N: n}
					changes := says(always, o) || o == Add && n != 0 || says(ifYes, o) && code == 1
					growth := 0
					if changes && says(more, o) {
						growth = 1
					}
					if changes && says(less, o) {
						growth = -1
					}
					if Changes(c, r) != changes || Growth(c, r) != growth {
						t.Errorf("%+v, %+v: %v, %d, not %v, %d", c, r, Changes(c, r), Growth(c, r), changes, growth)
					}
					seen[fmt.Sprint(changes, growth)]++
				}
			}
		}
	}
	if len(seen) != 4 {
		t.Errorf("%v", seen)
	}
}
