package svm

import "pianola/api"

// hand is a row of tokens on the way from operation to operation.
type hand struct{ tokens []int }

// has tells whether there are as many tokens.
func (h *hand) has(many int) bool { return many <= len(h.tokens) }

// holds tells whether there may be as many tokens more.
func (h *hand) holds(many int) bool { return len(h.tokens)+many <= api.MaxRate }

// grasp puts tokens behind those that are there.
func (h *hand) grasp(tokens []int) { h.tokens = append(h.tokens, tokens...) }

// pass lets go of the first tokens.
func (h *hand) pass(many int) []int {
	first := h.tokens[:many]
	h.tokens = h.tokens[many:]
	return first
}

// dealt is the whole row in lists of so many each, one behind the other.
func (h *hand) dealt(rates []int) [][]int {
	lists := make([][]int, len(rates))
	rest := h.tokens
	for i, rate := range rates {
		lists[i], rest = rest[:rate], rest[rate:]
	}
	return lists
}
