package alarm

// alarm is a number, the tick at which it rings, and its place in the order.
type alarm struct{ id, at, place int }

// order is alarms as the library's heap: the first one is the one that rings first.
type order []*alarm

// Len: how many there are.
func (o order) Len() int {
	return len(o)
}

// Less: does one ring ahead of another one? Of like ticks the least number does.
func (o order) Less(i, j int) bool {
	if o[i].at != o[j].at {
		return o[i].at < o[j].at
	}
	return o[i].id < o[j].id
}

// Swap: two change places.
func (o order) Swap(i, j int) {
	o[i], o[j] = o[j], o[i]
	o[i].place, o[j].place = i, j
}

// Push: one more, as the last one.
func (o *order) Push(x any) {
	a := x.(*alarm)
	a.place = len(*o)
	*o = append(*o, a)
}

// Pop: the last one goes.
func (o *order) Pop() any {
	last := len(*o) - 1
	a := (*o)[last]
	// What has gone isn't kept behind the end.
	(*o)[last] = nil
	*o = (*o)[:last]
	return a
}
