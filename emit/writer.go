package emit

import "pianola/api"

// writer writes operations, one behind the other.
type writer struct {
	ops      []api.Op
	open     int // heads that no back has closed yet
	counters int // heads that were open together, at most
}

func (w *writer) put(ops ...api.Op) { w.ops = append(w.ops, ops...) }

// head opens a loop, with the first counter that no open one has, and tells the place right behind itself.
func (w *writer) head(times int) int {
	w.put(api.Op{Kind: api.OpHead, A: w.open, B: times})
	w.open++
	w.counters = max(w.counters, w.open)
	return len(w.ops)
}

// back closes the loop that was opened last; its inside begins at that place.
func (w *writer) back(inside int) {
	w.open--
	w.put(api.Op{Kind: api.OpBack, A: w.open, B: inside})
}
