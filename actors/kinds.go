package actors

import (
	"slices"

	"pianola/api"
)

// kind is one kind of actor.
type kind interface {
	rates() ([]int, []int)
	takes(ins ...[]int) bool
	count()
	times() int
	keeps() []int
	// fire is what a firing gives; where it fails, it tells false and changes nothing. The lists are those of takes.
	fire(ins ...[]int) ([][]int, bool)
}

// made is the kind of a tag; its parameters are right.
func made(tag api.Tag, c common, params ...int) kind {
	switch tag {
	case api.Filter:
		return &filter{c, slices.Clone(params), make([]int, len(params)-1)}
	case api.Up:
		return &up{c}
	case api.Down:
		return &down{c}
	case api.Weave:
		return &weave{c}
	case api.Unweave:
		return &unweave{c}
	case api.Add:
		return &add{c}
	case api.Quot:
		return &quot{c}
	case api.Sum:
		return &sum{common: c}
	case api.Copy:
		return &copies{c}
	case api.Tick:
		return &tick{c, params[0], params[1]}
	}
	return &drop{c}
}

// common is what all kinds have; it keeps nothing from firing to firing.
type common struct {
	ins, outs []int
	fired     int
}

func (c *common) rates() ([]int, []int) { return slices.Clone(c.ins), slices.Clone(c.outs) }

// takes tells whether there is a list for each in-port, with as many tokens as its rate.
func (c *common) takes(ins ...[]int) bool {
	if len(ins) != len(c.ins) {
		return false
	}
	for i, rate := range c.ins {
		if len(ins[i]) != rate {
			return false
		}
	}
	return true
}

func (c *common) count() { c.fired++ }

func (c *common) times() int { return c.fired }

func (c *common) keeps() []int { return nil }
