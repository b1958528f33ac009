package witness

import (
	"armoire/adt"
	"armoire/value"
)

// pair is two steps of one type.
type pair struct{ x, y adt.Step }

// tries has, at each type, the states by which Find looks for what a pair shows: one of them shows it, if any does. Some may be none that may be.
func tries() [value.Semi + 1]func(pair) []value.State {
	return [...]func(pair) []value.State{
		value.Register:  pair.withTexts,
		value.Counter:   pair.withNumbers,
		value.Account:   pair.withMoney,
		value.Set:       pair.withKey,
		value.Directory: pair.withKey,
		value.Queue:     pair.withTexts,
		value.Semi:      pair.withTexts,
	}
}

// kind is the type of both.
func (p pair) kind() int {
	return p.x.Call.Op.Kind()
}

// withTexts: nothing, and alone what one of them was answered.
func (p pair) withTexts() []value.State {
	return p.with(value.Row{Key: p.x.Result.Text}, value.Row{Key: p.y.Result.Text})
}

// withKey: nothing, and alone what they speak of: a Look says what has to stand there.
func (p pair) withKey() []value.State {
	key := p.x.Call.A
	return p.with(value.Row{Key: key, Val: p.x.Result.Text}, value.Row{Key: key, Val: p.y.Result.Text})
}

// with: a state without rows, and of each row one that has it alone.
func (p pair) with(rows ...value.Row) []value.State {
	empty := value.New(p.kind())
	l := []value.State{empty}
	for _, r := range rows {
		l = append(l, empty.With(r))
	}
	return l
}

// withNumbers: what one of them was answered.
func (p pair) withNumbers() []value.State {
	return p.of(p.x.Result.N, p.y.Result.N)
}

// withMoney: what one of them was answered, just enough for its call, and not quite.
func (p pair) withMoney() []value.State {
	asked, other := p.x.Call.N, p.y.Call.N
	return append(p.withNumbers(), p.of(asked, other, asked-1, other-1)...)
}

// of: a state of each number.
func (p pair) of(numbers ...int64) []value.State {
	var l []value.State
	for _, n := range numbers {
		l = append(l, value.State{Kind: p.kind(), N: n})
	}
	return l
}
