package svm

import "pianola/api"

// lines are the cells of a program, and the lines that lie in them, as the case may be over one another.
type lines struct {
	cells []int
	rings []ring
}

// ring is a line: the cells of its region, gone round.
type ring struct {
	api.Region
	position int // in the region, of the first token
	count    int
}

// cell is the place of the token that has so many of the line's ahead of it.
func (r ring) cell(ahead int) int { return r.Base + (r.position+ahead)%r.Size }

// room is how many tokens more a line may have.
func (r ring) room() int { return r.Size - r.count }

// laid are so many cells with the lines in them, each with its tokens at the start.
func laid(memory int, of []api.Line) lines {
	l := lines{cells: make([]int, memory), rings: make([]ring, len(of))}
	for i, line := range of {
		l.rings[i].Region = line.Region
		l.lay(i, line.Start)
	}
	return l
}

// lay puts tokens behind those of a line that has room for them, and tells the cells.
func (l *lines) lay(line int, tokens []int) []int {
	r := &l.rings[line]
	cells := make([]int, len(tokens))
	for i, token := range tokens {
		cells[i] = r.cell(r.count + i)
		l.cells[cells[i]] = token
	}
	r.count += len(tokens)
	return cells
}

// lift takes the first tokens of a line that has as many, and tells the cells too. They stay written there.
func (l *lines) lift(line, many int) (tokens, cells []int) {
	r := &l.rings[line]
	for i := range many {
		cell := r.cell(i)
		tokens, cells = append(tokens, l.cells[cell]), append(cells, cell)
	}
	r.position = (r.position + many) % r.Size
	r.count -= many
	return tokens, cells
}

// counts are how many tokens the lines have.
func (l *lines) counts() []int {
	all := make([]int, len(l.rings))
	for i, r := range l.rings {
		all[i] = r.count
	}
	return all
}
