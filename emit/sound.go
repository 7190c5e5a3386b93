package emit

import (
	"pianola/api"
	"pianola/graph"
	"pianola/nest"
)

// refusal is the first thing that is wrong with a graph, a nest of its actors and a plan of its edges.
func refusal(g api.Graph, plan api.Plan, loops ...api.Loop) api.Errno {
	if e := graph.Check(g); e != api.OK {
		return e
	}
	if e := nest.Check(loops...); e != api.OK {
		return e
	}
	// In a nest that holds each leaf fires at least once: none is missed.
	for node := range nest.All(loops...) {
		if node >= len(g.Actors) {
			return api.ErrNode
		}
	}
	if !covers(plan, g.Edges) {
		return api.ErrPlan
	}
	return api.OK
}

// covers tells whether a plan has a region for each of the edges that lies in its cells and has room for the tokens at the start.
func covers(plan api.Plan, edges []api.Edge) bool {
	if len(plan.Regions) != len(edges) || plan.Total < 0 || plan.Total > api.MaxMem {
		return false
	}
	for i, region := range plan.Regions {
		if !inside(region, plan.Total) || region.Size < len(edges[i].Start) {
			return false
		}
	}
	return true
}

// inside tells whether a region lies in so many cells. Taking the Base away from these fits; Base and Size added up might not.
func inside(region api.Region, cells int) bool {
	return region.Base >= 0 && region.Size >= 0 && region.Size <= cells-region.Base
}
