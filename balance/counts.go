package balance

import (
	"pianola/api"
	"pianola/frac"
)

// forestCounts are in each component the least counts with which the forest's arcs balance; false, if one of them passes MaxRep.
func forestCounts(n api.Net, f api.Forest) ([]int, bool) {
	shares, e := carried(n, f)
	if e != api.OK {
		return nil, false
	}
	reps := make([]int, n.Nodes)
	for home := range n.Nodes {
		if !settle(reps, shares, f, home) {
			return nil, false
		}
	}
	return reps, allWithin(reps)
}

// carried are the nodes' counts as parts of their homes' ones, carried from the homes on along the forest. The Num of a share divides the node's count, its Den the home's: where one does not fit, a count passes MaxRep, whatever the rest is.
func carried(n api.Net, f api.Forest) ([]api.Frac, api.Errno) {
	shares := make([]api.Frac, n.Nodes)
	var ask func(node int, share api.Frac) api.Errno
	ask = func(node int, share api.Frac) api.Errno {
		shares[node] = share
		for _, arc := range f.Tree {
			end, factor, touches := across(n.Arcs[arc], node)
			if !touches || shares[end] != (api.Frac{}) {
				continue
			}
			next, e := frac.Mul(share, factor)
			if e == api.OK {
				e = ask(end, next)
			}
			if e != api.OK {
				return e
			}
		}
		return api.OK
	}
	for node, home := range f.Home {
		if node != home {
			continue
		}
		if e := ask(home, ratio(1, 1)); e != api.OK {
			return nil, e
		}
	}
	return shares, api.OK
}

// across is where an arc leads from a node, and how often that end fires for each firing of the node; it tells whether the node is an end of the arc at all.
func across(a api.Arc, node int) (end int, factor api.Frac, touches bool) {
	switch node {
	case a.From:
		return a.To, ratio(a.Give, a.Take), true
	case a.To:
		return a.From, ratio(a.Take, a.Give), true
	}
	return 0, api.Frac{}, false
}

// settle writes the counts of one home's component; false, if one does not fit, which is far above MaxRep. The home's own share is 1, so that what makes all shares whole is the home's count.
func settle(reps []int, shares []api.Frac, f api.Forest, home int) bool {
	var members []int
	var theirs []api.Frac
	for node, of := range f.Home {
		if of == home {
			members = append(members, node)
			theirs = append(theirs, shares[node])
		}
	}
	_, wholes, e := frac.Scale(theirs...)
	if e != api.OK {
		return false
	}
	for i, node := range members {
		reps[node] = wholes[i]
	}
	return true
}
