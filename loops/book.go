package loops

import "pianola/api"

// look is all by which a loop differs from others: its Times, its Node, and its Body's number.
type look struct {
	times int
	node  int
	body  int
}

// link is a row of loops by the number of the row without its last loop, and the number of that loop.
type link struct {
	ahead int
	last  int
}

// known is a loop that has a number: its Body as the numbers of its loops.
type known struct {
	times int
	node  int
	body  []int
}

// book numbers loops, so that two are the same just if their numbers are: a row is folded without a look into any Body.
type book struct {
	loops map[look]int
	rows  map[link]int
	known []known
}

func newBook() *book {
	return &book{loops: map[look]int{}, rows: map[link]int{}}
}

// loop is a loop's number.
func (b *book) loop(times, node int, body ...int) int {
	l := look{times: times, node: node, body: b.row(body...)}
	number, there := b.loops[l]
	if !there {
		number = len(b.known)
		b.loops[l] = number
		b.known = append(b.known, known{times: times, node: node, body: body})
	}
	return number
}

// row is a row's number; that of the empty row is 0.
func (b *book) row(loops ...int) int {
	number := 0
	for _, last := range loops {
		l := link{ahead: number, last: last}
		if b.rows[l] == 0 {
			b.rows[l] = len(b.rows) + 1
		}
		number = b.rows[l]
	}
	return number
}

// numbered are the numbers of loops that are sound: else they might have no end.
func (b *book) numbered(row ...api.Loop) []int {
	numbers := make([]int, len(row))
	for i, loop := range row {
		numbers[i] = b.loop(loop.Times, loop.Node, b.numbered(loop.Body...)...)
	}
	return numbers
}

// written are the loops of these numbers, each in memory of its own.
func (b *book) written(numbers ...int) []api.Loop {
	var row []api.Loop
	for _, number := range numbers {
		k := b.known[number]
		row = append(row, api.Loop{Times: k.times, Node: k.node, Body: b.written(k.body...)})
	}
	return row
}
