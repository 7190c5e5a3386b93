package svm

// ports are the inputs and the outputs of a program.
type ports struct {
	fed     [][]int // of each input what was fed and not read yet
	written [][]int // of each output all that was written
}

// draw takes the first tokens of an input that has as many.
func (p *ports) draw(in, many int) []int {
	first := p.fed[in][:many]
	p.fed[in] = p.fed[in][many:]
	return first
}

// tell writes tokens behind an output's.
func (p *ports) tell(out int, tokens []int) { p.written[out] = append(p.written[out], tokens...) }
