package value

import (
	"math"
	"math/rand"
	"slices"
	"strings"
	"testing"

	"armoire/api"
)

// first: Check's answer, by the chapter's words, one behind the other.
func first(s State) api.Errno {
	isNumber := s.Kind == 2 || s.Kind == 3
	if !slices.Contains([]int{1, 2, 3, 4, 5, 6, 7}, s.Kind) {
		return api.ErrKind
	}
	if isNumber && len(s.Rows) > 0 || !isNumber && s.N != 0 || s.Kind == 3 && s.N < 0 {
		return api.ErrForm
	}
	if len(s.Rows) > 8 || s.Kind == 1 && len(s.Rows) > 1 {
		return api.ErrFull
	}
	ahead := ""
	for k, r := range s.Rows {
		if len(r.Key) > 24 || len(r.Val) > 24 {
			return api.ErrBig
		}
		order := 1
		if k > 0 {
			order = strings.Compare(r.Key, ahead)
		}
		ahead = r.Key
		isAmiss := r.Val != "" && s.Kind != 5
		isAmiss = isAmiss || order < 1 && (s.Kind == 4 || s.Kind == 5)
		isAmiss = isAmiss || order < 0 && s.Kind == 7
		isAmiss = isAmiss || r.Key == "" && s.Kind == 1
		if isAmiss {
			return api.ErrForm
		}
	}
	return api.OK
}

// P11.1: Check of each type: what may be, and each error, in its order ahead of those behind it.
func TestCheck(t *testing.T) {
	eight := rows("a", "b", "c", "d", "e", "f", "g", "h")
	nine := append(slices.Clone(eight), Row{Key: "i"})
	for name, x := range map[string]struct {
		s    State
		want api.Errno
	}{
		"zero":                              {State{}, api.ErrKind},
		"below":                             {State{Kind: -1}, api.ErrKind},
		"beyond":                            {State{Kind: 8}, api.ErrKind},
		"far beyond":                        {State{Kind: 256 + Set}, api.ErrKind},
		"least":                             {State{Kind: math.MinInt}, api.ErrKind},
		"no type, a number":                 {State{Kind: 8, N: -1}, api.ErrKind},
		"no type, nine":                     {State{Kind: 8, Rows: nine}, api.ErrKind},
		"no type, long":                     {State{Rows: rows(long)}, api.ErrKind},
		"register":                          {State{Kind: Register}, api.OK},
		"register, a text":                  {State{Kind: Register, Rows: rows("a")}, api.OK},
		"register, as long as may be":       {State{Kind: Register, Rows: rows(fits)}, api.OK},
		"register, empty list":              {State{Kind: Register, Rows: []Row{}}, api.OK},
		"register, no text":                 {State{Kind: Register, Rows: rows("")}, api.ErrForm},
		"register, a Val":                   {State{Kind: Register, Rows: []Row{{"a", "b"}}}, api.ErrForm},
		"register, long":                    {State{Kind: Register, Rows: rows(long)}, api.ErrBig},
		"register, a long Val":              {State{Kind: Register, Rows: []Row{{"", long}}}, api.ErrBig},
		"register, two":                     {State{Kind: Register, Rows: rows("a", "b")}, api.ErrFull},
		"register, two, long":               {State{Kind: Register, Rows: rows(long, "")}, api.ErrFull},
		"register, a number":                {State{Kind: Register, N: 1, Rows: rows("a", "b")}, api.ErrForm},
		"counter":                           {State{Kind: Counter}, api.OK},
		"counter, greatest":                 {State{Kind: Counter, N: math.MaxInt64}, api.OK},
		"counter, least":                    {State{Kind: Counter, N: math.MinInt64}, api.OK},
		"counter, a row":                    {State{Kind: Counter, Rows: rows("a")}, api.ErrForm},
		"counter, a row of nothing":         {State{Kind: Counter, Rows: rows("")}, api.ErrForm},
		"counter, nine":                     {State{Kind: Counter, Rows: nine}, api.ErrForm},
		"counter, long":                     {State{Kind: Counter, Rows: rows(long)}, api.ErrForm},
		"account":                           {State{Kind: Account}, api.OK},
		"account, greatest":                 {State{Kind: Account, N: math.MaxInt64}, api.OK},
		"account, below 0":                  {State{Kind: Account, N: -1}, api.ErrForm},
		"account, least":                    {State{Kind: Account, N: math.MinInt64}, api.ErrForm},
		"account, a row":                    {State{Kind: Account, N: 5, Rows: rows("a")}, api.ErrForm},
		"account, nine":                     {State{Kind: Account, Rows: nine}, api.ErrForm},
		"set":                               {State{Kind: Set, Rows: eight}, api.OK},
		"set, the text of no bytes":         {State{Kind: Set, Rows: rows("", "\x00", "a", "a\x00", "\xff", "\xff\x00")}, api.OK},
		"set, a number":                     {State{Kind: Set, N: 1}, api.ErrForm},
		"set, a number, nine":               {State{Kind: Set, N: -1, Rows: nine}, api.ErrForm},
		"set, nine":                         {State{Kind: Set, Rows: nine}, api.ErrFull},
		"set, nine, long":                   {State{Kind: Set, Rows: append(rows(long), eight...)}, api.ErrFull},
		"set, falling":                      {State{Kind: Set, Rows: rows("b", "a")}, api.ErrForm},
		"set, twice":                        {State{Kind: Set, Rows: rows("a", "a")}, api.ErrForm},
		"set, twice nothing":                {State{Kind: Set, Rows: rows("", "")}, api.ErrForm},
		"set, a beginning behind":           {State{Kind: Set, Rows: rows("ab", "a")}, api.ErrForm},
		"set, falling, by bytes":            {State{Kind: Set, Rows: rows("\xff", "\x7f")}, api.ErrForm},
		"set, a Val":                        {State{Kind: Set, Rows: []Row{{"a", "b"}}}, api.ErrForm},
		"set, long":                         {State{Kind: Set, Rows: rows("a", long)}, api.ErrBig},
		"set, a Val, then long":             {State{Kind: Set, Rows: []Row{{"a", "b"}, {Key: long}}}, api.ErrForm},
		"set, long, then a Val":             {State{Kind: Set, Rows: []Row{{Key: long}, {"y", "b"}}}, api.ErrBig},
		"set, long and falling":             {State{Kind: Set, Rows: rows("z", long)}, api.ErrBig},
		"set, the last one falls":           {State{Kind: Set, Rows: append(slices.Clone(eight[:7]), Row{Key: "g"})}, api.ErrForm},
		"directory":                         {State{Kind: Directory, Rows: []Row{{"", ""}, {"a", "b"}, {"b", "a"}, {"c", fits}, {fits, ""}}}, api.OK},
		"directory, a number":               {State{Kind: Directory, N: 1}, api.ErrForm},
		"directory, nine":                   {State{Kind: Directory, Rows: nine}, api.ErrFull},
		"directory, twice":                  {State{Kind: Directory, Rows: []Row{{"a", "b"}, {"a", "c"}}}, api.ErrForm},
		"directory, falling":                {State{Kind: Directory, Rows: []Row{{"b", "b"}, {"a", "c"}}}, api.ErrForm},
		"directory, a long Key":             {State{Kind: Directory, Rows: []Row{{long, "b"}}}, api.ErrBig},
		"directory, a long Val":             {State{Kind: Directory, Rows: []Row{{"a", long}}}, api.ErrBig},
		"directory, a long Val, falling":    {State{Kind: Directory, Rows: []Row{{"b", ""}, {"a", long}}}, api.ErrBig},
		"directory, falling, then long":     {State{Kind: Directory, Rows: []Row{{"b", ""}, {"a", ""}, {"c", long}}}, api.ErrForm},
		"queue":                             {State{Kind: Queue, Rows: rows("z", "a", "z", "", "", "b", "a", fits)}, api.OK},
		"queue, a number":                   {State{Kind: Queue, N: 1}, api.ErrForm},
		"queue, nine":                       {State{Kind: Queue, Rows: nine}, api.ErrFull},
		"queue, a Val":                      {State{Kind: Queue, Rows: []Row{{"", "b"}}}, api.ErrForm},
		"queue, long":                       {State{Kind: Queue, Rows: rows(long)}, api.ErrBig},
		"queue, a long Val":                 {State{Kind: Queue, Rows: []Row{{"", long}}}, api.ErrBig},
		"semiqueue":                         {State{Kind: Semi, Rows: rows("", "", "a", "a", "a", "b", "c", "c")}, api.OK},
		"semiqueue, a number":               {State{Kind: Semi, N: 1}, api.ErrForm},
		"semiqueue, nine":                   {State{Kind: Semi, Rows: nine}, api.ErrFull},
		"semiqueue, falling":                {State{Kind: Semi, Rows: rows("a", "b", "a")}, api.ErrForm},
		"semiqueue, a Val":                  {State{Kind: Semi, Rows: []Row{{"a", "b"}}}, api.ErrForm},
		"semiqueue, long":                   {State{Kind: Semi, Rows: rows(long, "a")}, api.ErrBig},
		"semiqueue, falling, then too long": {State{Kind: Semi, Rows: rows("b", "a", long)}, api.ErrForm},
	} {
		if e := x.s.Check(); e != x.want || first(x.s) != x.want {
			t.Errorf("%s: %d, not %d (%d)", name, e, x.want, first(x.s))
		}
	}
}

// P11.1: Check of small states of all sorts, and of greater ones at chance.
func TestCheckAny(t *testing.T) {
	letters := []Row{{}, {Key: "a"}, {Key: "b"}, {"a", "v"}, {Key: long}, {"b", long}}
	all := [][]Row{nil}
	for from, size := 0, 1; size <= 3; size++ {
		to := len(all)
		for _, l := range all[from:to] {
			for _, row := range letters {
				all = append(all, append(slices.Clone(l), row))
			}
		}
		from = to
	}
	for kind := -1; kind < 9; kind++ {
		for _, n := range []int64{-1, 0, 1} {
			for _, l := range all {
				s := State{kind, n, l}
				if e := s.Check(); e != first(s) {
					t.Fatalf("%+v: %d, not %d", s, e, first(s))
				}
			}
		}
	}
	r := rand.New(rand.NewSource(8))
	counts := map[api.Errno]int{}
	for range 40000 {
		s := mixed(r)
		e := s.Check()
		if e != first(s) {
			t.Fatalf("%+v: %d, not %d", s, e, first(s))
		}
		counts[e]++
	}
	for _, e := range []api.Errno{api.OK, api.ErrKind, api.ErrForm, api.ErrFull, api.ErrBig} {
		if counts[e] < 500 {
			t.Errorf("%v", counts)
		}
	}
}
