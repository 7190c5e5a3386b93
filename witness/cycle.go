package witness

import "pianola/api"

// isCycle tells whether steps are a cycle; the net is sound.
func isCycle(n api.Net, steps []api.Step) bool {
	return len(steps) > 0 && allNamed(n, steps) && leadHome(n, steps) && !anyTwice(n, steps)
}

// allNamed tells whether each step's arc is one of the net's.
func allNamed(n api.Net, steps []api.Step) bool {
	for _, step := range steps {
		if step.Arc < 0 || step.Arc >= len(n.Arcs) {
			return false
		}
	}
	return true
}

// leadHome tells whether each step starts where the one ahead of it ended, and the first one where the last one ended.
func leadHome(n api.Net, steps []api.Step) bool {
	at := taken(n, steps[len(steps)-1]).To
	for _, step := range steps {
		a := taken(n, step)
		if a.From != at {
			return false
		}
		at = a.To
	}
	return true
}

// anyTwice tells whether an arc stands twice, or two steps have the same start. Of more steps than nodes two of the first ones have, so that the look ends soon, however many there are.
func anyTwice(n api.Net, steps []api.Step) bool {
	found := false
look:
	for i, step := range steps {
		for _, ahead := range steps[:i] {
			if step.Arc == ahead.Arc || taken(n, step).From == taken(n, ahead).From {
				found = true
				break look
			}
		}
	}
	return found
}
