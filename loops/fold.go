package loops

import "pianola/api"

// shortest folds a row till no width folds it further.
func (b *book) shortest(row ...int) []int {
	width := 1
	for width <= api.MaxWidth && 2*width <= len(row) {
		folded := b.fold(width, row...)
		if len(folded) < len(row) {
			width = 1
		} else {
			width++
		}
		row = folded
	}
	return row
}

// fold folds a row in one pass. It leaves the row as it is, since the bodies that the book keeps are pieces of it.
func (b *book) fold(width int, row ...int) []int {
	var folded []int
	for at := 0; at < len(row); {
		times := groups(width, row[at:]...)
		if times < 2 {
			folded = append(folded, row[at])
			at++
			continue
		}
		folded = append(folded, b.loop(times, 0, row[at:at+width]...))
		at += times * width
	}
	return folded
}

// groups is how many groups of that width, from the first one on, are all the same; 1, too, where not even one stands wholly. (A group is the same as the one ahead of it just if each of its loops is the same as the one a width ahead.)
func groups(width int, row ...int) int {
	alike := width
	for alike < len(row) && row[alike] == row[alike-width] {
		alike++
	}
	return alike / width
}
