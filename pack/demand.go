package pack

import (
	"cmp"
	"slices"

	"pianola/api"
	"pianola/peaks"
)

// demand is what a list asks of the regions: each arc's peak, and the pairs of arcs that clash.
type demand struct {
	most  []int
	pairs [][2]int
}

// demandOf is the demand of a list that comes home.
func demandOf(n api.Net, list ...int) (demand, api.Errno) {
	home, e := peaks.Home(n, list...)
	if e != api.OK {
		return demand{}, e
	}
	if !home {
		return demand{}, api.ErrHome
	}
	most, e := peaks.Most(n, list...)
	if e != api.OK {
		return demand{}, e
	}
	pairs, e := Clash(n, list...)
	return demand{most: most, pairs: pairs}, e
}

// clash tells whether two arcs clash, whichever number is the lesser one.
func (d demand) clash(one, other int) bool {
	return slices.Contains(d.pairs, [2]int{min(one, other), max(one, other)})
}

// turns are the arcs in the order in which they get their Bases.
func (d demand) turns() []int {
	arcs := make([]int, len(d.most))
	for i := range arcs {
		arcs[i] = i
	}
	slices.SortFunc(arcs, func(a, b int) int {
		return cmp.Or(cmp.Compare(d.most[b], d.most[a]), cmp.Compare(a, b))
	})
	return arcs
}

// rivals are the regions of the arcs that clash with this one. That of an arc without a Base yet is empty, so it is in nobody's way.
func (d demand) rivals(arc int, regions []api.Region) []api.Region {
	var found []api.Region
	for other, region := range regions {
		if d.clash(arc, other) {
			found = append(found, region)
		}
	}
	return found
}

// sizes tells what is wrong with the regions one by one.
func (d demand) sizes(regions []api.Region) api.Errno {
	if len(regions) != len(d.most) {
		return api.ErrArg
	}
	for arc, region := range regions {
		if !inMemory(region.Base) || !inMemory(region.Size) {
			return api.ErrArg
		}
		if region.Size < d.most[arc] {
			return api.ErrSize
		}
	}
	return api.OK
}
