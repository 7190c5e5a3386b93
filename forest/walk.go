package forest

import "pianola/api"

// noArc is the place of an arc that there is not.
const noArc = -1

// walk is the path along a forest's arcs between two nodes that they join.
func walk(n api.Net, tree []int, from, to int) []api.Step {
	var path []api.Step
	var reach func(node, came int) bool
	reach = func(node, came int) bool {
		if node == to {
			return true
		}
		for _, arc := range tree {
			end, back, touches := across(n.Arcs[arc], node)
			if !touches || arc == came { // a forest has no cycle: not turning round is enough to come by no node twice
				continue
			}
			path = append(path, api.Step{Arc: arc, Back: back})
			if reach(end, arc) {
				return true
			}
			path = path[:len(path)-1]
		}
		return false
	}
	reach(from, noArc)
	return path
}

// across is where an arc leads from a node, and whether that is back; it tells whether the node is an end of the arc at all.
func across(a api.Arc, node int) (end int, back, touches bool) {
	switch node {
	case a.From:
		return a.To, false, true
	case a.To:
		return a.From, true, true
	}
	return 0, false, false
}
