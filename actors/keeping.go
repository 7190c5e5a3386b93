package actors

import (
	"slices"

	"pianola/ints"
)

// filter keeps one token fewer than it has taps, the last one taken first.
type filter struct {
	common
	taps, kept []int
}

func (f *filter) keeps() []int { return slices.Clone(f.kept) }

func (f *filter) fire(ins ...[]int) ([][]int, bool) {
	tokens := append([]int{ins[0][0]}, f.kept...)
	given, fits := ints.Dot(f.taps, tokens)
	if !fits {
		return nil, false
	}
	f.kept = tokens[:len(f.kept)]
	return single(given), true
}

// sum keeps the sum of all that it took.
type sum struct {
	common
	sofar int
}

func (s *sum) keeps() []int { return []int{s.sofar} }

func (s *sum) fire(ins ...[]int) ([][]int, bool) {
	all, fits := ints.Add(s.sofar, ins[0][0])
	if !fits {
		return nil, false
	}
	s.sofar = all
	return single(all), true
}

// tick keeps what it gives next.
type tick struct {
	common
	next, by int
}

func (t *tick) keeps() []int { return []int{t.next} }

func (t *tick) fire(ins ...[]int) ([][]int, bool) {
	behind, fits := ints.Add(t.next, t.by)
	if !fits {
		return nil, false
	}
	given := single(t.next)
	t.next = behind
	return given, true
}
