package graph

// stop is a number on a way, and to whom it hasn't led yet.
type stop struct {
	number int
	open   []int
}

// left stands for the place of a number that was left.
const left = -1

// walk goes from who waits to those for which it does. It keeps its way itself: a way may be longer than calls may be nested.
type walk struct {
	on     map[int][]int
	way    []stop
	places map[int]int // on the way, from 1 on
}

// enter goes on to a number.
func (w *walk) enter(x int) {
	w.way = append(w.way, stop{number: x, open: w.on[x]})
	w.places[x] = len(w.way)
}

// leave goes back from the last number.
func (w *walk) leave() {
	last := len(w.way) - 1
	w.places[w.way[last].number] = left
	w.way = w.way[:last]
}

// next is to whom the way leads next; false: to nobody any more.
func (w *walk) next() (int, bool) {
	last := &w.way[len(w.way)-1]
	if len(last.open) == 0 {
		return 0, false
	}
	x := last.open[0]
	last.open = last.open[1:]
	return x, true
}

// from is the first circle to which a number leads, if it wasn't left; nil: there is none.
func (w *walk) from(x int) []int {
	if w.places[x] == left {
		return nil
	}
	w.enter(x)
	for len(w.way) > 0 {
		next, more := w.next()
		if !more {
			w.leave()
			continue
		}
		switch at := w.places[next]; at {
		case 0:
			w.enter(next)
		case left:
		default:
			return w.back(at)
		}
	}
	return nil
}

// back is the way from a place on.
func (w *walk) back(at int) []int {
	var l []int
	for _, each := range w.way[at-1:] {
		l = append(l, each.number)
	}
	return l
}
