package pack

import (
	"cmp"
	"slices"

	"pianola/api"
)

func inMemory(number int) bool { return number >= 0 && number <= api.MaxMem }

func end(region api.Region) int { return region.Base + region.Size }

// share tells whether one cell is in both regions.
func share(one, other api.Region) bool {
	return max(one.Base, other.Base) < min(end(one), end(other))
}

// cells is how many cells the regions reach over.
func cells(regions []api.Region) int {
	most := 0
	for _, region := range regions {
		most = max(most, end(region))
	}
	return most
}

// lowest is the least Base at which a region of this size shares no cell with the others; these are put in order.
// Going up by their Bases once is enough: when one of them lies wholly above the region, so do all behind it.
func lowest(size int, others []api.Region) int {
	slices.SortFunc(others, func(a, b api.Region) int { return cmp.Compare(a.Base, b.Base) })
	region := api.Region{Size: size}
	for _, other := range others {
		if share(region, other) {
			region.Base = end(other)
		}
	}
	return region.Base
}
