package emit

import "pianola/api"

// maker writes the operations of a nest.
type maker struct {
	writer
	firings [][]api.Op // of each actor those of one firing
}

func (m *maker) loops(nest ...api.Loop) {
	for _, loop := range nest {
		m.loop(loop)
	}
}

func (m *maker) loop(loop api.Loop) {
	if loop.Times == 1 {
		m.once(loop)
		return
	}
	inside := m.head(loop.Times)
	m.once(loop)
	m.back(inside)
}

// once writes what a loop does each time that it goes round.
func (m *maker) once(loop api.Loop) {
	if len(loop.Body) > 0 {
		m.loops(loop.Body...)
		return
	}
	m.put(m.firings[loop.Node]...)
}
