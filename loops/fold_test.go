package loops_test

import (
	"slices"
	"testing"

	"pianola/api"
	"pianola/loops"
	"pianola/nest"
)

// TestFoldExamples is P17.1: the chapter's examples.
func TestFoldExamples(t *testing.T) {
	foldIs(t, 1, row(leaf(0, 1), leaf(0, 1), leaf(1, 2), leaf(1, 2), leaf(1, 2)), row(block(2, leaf(0, 1)), block(3, leaf(1, 2))))
	foldIs(t, 2, singles(0, 1, 0, 1, 0), row(block(2, singles(0, 1)...), leaf(0, 1)))
	foldIs(t, 2, singles(2, 0, 1, 0, 1), row(leaf(2, 1), block(2, singles(0, 1)...)))
	foldIs(t, 1, row(leaf(0, 1), leaf(0, 2)), row(leaf(0, 1), leaf(0, 2)))
	foldIs(t, 3, singles(0, 0), singles(0, 0))
	foldRefuses(t, api.ErrArg, 0, leaf(0, 1))
	foldRefuses(t, api.ErrArg, 17, leaf(0, 1))
	foldRefuses(t, api.ErrTimes, 0, leaf(0, 0))
}

// TestWidth is P17.1: widths from 1 to 16 and no other, whatever the row, even if it is empty.
func TestWidth(t *testing.T) {
	rows := [][]api.Loop{nil, singles(0), singles(slices.Repeat(upTo(16), 3)...), slices.Repeat(row(leaf(0, 1)), 2048), row(within(16, leaf(0, 1)), within(16, leaf(0, 1)))}
	for _, of := range rows {
		for _, width := range []int{least, least + 1, -1 << 32, -17, -16, -1, 0, 17, 18, 32, 2048, 1<<32 + 1, 1 << 62, greatest - 1, greatest} {
			foldRefuses(t, api.ErrArg, width, of...)
		}
		foldAgrees(t, of...)
	}
	for width := 1; width <= 16; width++ {
		foldIs(t, width, nil, nil)
		foldIs(t, width, []api.Loop{}, nil)
		foldIs(t, width, singles(5), singles(5))
	}
}

// knot is a row that has itself as a Body, behind this many leaves.
func knot(times, node, ahead int) []api.Loop {
	body := slices.Repeat(row(leaf(0, 1)), ahead+1)
	body[ahead] = api.Loop{Times: times, Node: node, Body: body}
	return body
}

// wrong are rows of each kind that nest.Check refuses.
func wrong() map[api.Errno][][]api.Loop {
	odd := api.Loop{Times: 1, Node: 1, Body: singles(0)}
	var ones []api.Loop
	for range 2048 {
		ones = append(ones, leaf(0, 1))
	}
	return map[api.Errno][][]api.Loop{
		api.ErrTimes:  {row(leaf(0, 0)), row(leaf(0, -1)), row(leaf(0, 1), leaf(0, least)), row(block(0, leaf(0, 1))), row(block(2, leaf(0, 0)), block(2, leaf(0, 0))), row(leaf(32, 0)), knot(0, 0, 1)},
		api.ErrNode:   {row(leaf(32, 1)), row(leaf(-1, 1)), row(leaf(1, 1), leaf(greatest, 1)), row(leaf(32, 1), leaf(32, 1)), row(block(2, leaf(least, 1))), row(leaf(0, 2049), leaf(32, 1))},
		api.ErrForm:   {row(odd), row(odd, odd), row(block(2, odd)), knot(1, 1, 3)},
		api.ErrDeep:   {row(within(17, leaf(0, 1))), row(within(17, leaf(0, 1)), within(17, leaf(0, 1))), row(within(60000, leaf(0, 1))), knot(1, 0, 0), knot(greatest, 0, 2)},
		api.ErrTooBig: {row(leaf(0, 2049)), row(leaf(0, 1024), leaf(0, 1024), leaf(0, 1)), row(block(greatest, leaf(0, greatest))), append(ones, leaf(32, 0)), slices.Repeat(ones, 50), knot(1, 0, 2048)},
	}
}

// TestRefused is P17.1: nest.Check's error of the row, at each width, ahead of one that may not be.
func TestRefused(t *testing.T) {
	for code, rows := range wrong() {
		for _, of := range rows {
			if e := nest.Check(of...); e != code {
				t.Fatalf("%v, not %v", e, code)
			}
			for width := -1; width <= 18; width++ {
				foldRefuses(t, code, width, of...)
			}
			foldRefuses(t, code, least, of...)
			foldRefuses(t, code, greatest, of...)
		}
	}
}

// unlike are loops no two of which are the same, though each is nearly one of the others.
func unlike() []api.Loop {
	return []api.Loop{
		leaf(0, 1), leaf(0, 2), leaf(1, 1), leaf(2, 1), leaf(1, 2), leaf(31, 1), leaf(0, 3),
		block(1, leaf(0, 1)), block(2, leaf(0, 1)), block(1, leaf(0, 2)), block(1, leaf(1, 1)), block(2, leaf(1, 1)),
		block(1, singles(0, 0)...), block(1, singles(0, 1)...), block(1, singles(1, 0)...), block(1, singles(0, 0, 0)...), block(1, singles(0, 1, 0)...), block(1, singles(0, 0, 1)...),
		block(1, leaf(0, 1), leaf(0, 2)), block(1, leaf(0, 2), leaf(0, 1)),
		block(1, block(1, leaf(0, 1))), block(1, block(2, leaf(0, 1))), block(2, block(1, leaf(0, 1))),
		block(1, block(1, leaf(0, 1)), leaf(0, 1)), block(1, leaf(0, 1), block(1, leaf(0, 1))), block(1, block(1, singles(0, 0)...)), block(1, block(1, singles(0, 0)...), leaf(0, 1)), block(1, block(1, leaf(0, 1), leaf(0, 1), leaf(0, 1))),
		block(1, block(1, leaf(0, 1)), block(1, leaf(0, 1))), block(1, block(1, block(1, leaf(0, 1)))), within(16, leaf(0, 1)), within(16, leaf(1, 1)), within(15, leaf(0, 1)), within(15, block(1, singles(0, 0)...)),
	}
}

// TestSame is P17.1: loops are the same by Times, Node and Body, at every depth, and by nothing else.
func TestSame(t *testing.T) {
	all := unlike()
	for i, one := range all {
		for j, other := range unlike() {
			for width := 1; width <= 3; width++ {
				fill := singles(20, 21)[:width-1]
				of := slices.Concat(fill, row(one), fill, row(other), fill)
				switch {
				case i != j:
					foldIs(t, width, of, of)
				case deepOf(row(one)) == 16:
					foldRefuses(t, api.ErrDeep, width, of...)
				default:
					foldIs(t, width, of, append(row(block(2, append(slices.Clone(fill), one)...)), fill...))
				}
			}
		}
	}
	for width := 1; width <= 16; width++ {
		foldIs(t, width, all, all)
	}
}

// TestEmptyBodies is P17.1: leaves are the same, whether their Bodies are nil or not.
func TestEmptyBodies(t *testing.T) {
	empty := api.Loop{Times: 2, Node: 3, Body: []api.Loop{}}
	roomy := api.Loop{Times: 2, Node: 3, Body: singles(7)[:0]}
	foldIs(t, 1, row(leaf(3, 2), empty, roomy), row(block(3, leaf(3, 2))))
	foldIs(t, 1, row(block(1, empty), block(1, leaf(3, 2)), block(1, roomy)), row(block(3, block(1, leaf(3, 2)))))
	foldIs(t, 2, row(empty, leaf(0, 1), roomy, leaf(0, 1)), row(block(2, leaf(3, 2), leaf(0, 1))))
	foldIs(t, 1, row(empty), row(leaf(3, 2)))
}

// TestGroups is P17.1: at each width so many groups, with some loops ahead of them and a group that is not whole, or not the same, behind them.
func TestGroups(t *testing.T) {
	for width := 1; width <= 16; width++ {
		body := singles(upTo(width)...)
		for times := 1; times <= 6; times++ {
			for ahead := range 4 {
				for behind := range width {
					first, last := singles(30, 29, 28)[:ahead], body[:behind]
					of := slices.Concat(first, slices.Repeat(body, times), last)
					want := of
					if times > 1 {
						want = slices.Concat(first, row(block(times, body...)), last)
					}
					foldIs(t, width, of, want)
					other := append(slices.Clone(body[behind:width-1]), leaf(27, 1))
					foldIs(t, width, slices.Concat(of, other), slices.Concat(want, other))
				}
			}
		}
	}
}

// TestOnePass is P17.1: the pass goes on behind a block, takes as many groups as there are at once, and does not look again at what it has made.
func TestOnePass(t *testing.T) {
	a, b := leaf(0, 1), leaf(1, 1)
	foldIs(t, 2, singles(0, 0, 0, 0, 0), row(block(2, a, a), a))
	foldIs(t, 2, singles(0, 0, 0, 0, 0, 0, 0), row(block(3, a, a), a))
	foldIs(t, 3, singles(0, 0, 0, 0, 0, 0, 0, 0), row(block(2, a, a, a), a, a))
	foldIs(t, 1, singles(0, 0, 1, 1, 0, 0, 1, 1), row(block(2, a), block(2, b), block(2, a), block(2, b)))
	foldIs(t, 2, singles(0, 1, 0, 1, 1, 0, 1, 0), row(block(2, a, b), block(2, b, a)))
	foldIs(t, 2, singles(0, 1, 0, 1, 0, 0, 1), row(block(2, a, b), a, a, b))
	foldIs(t, 2, singles(1, 0, 1, 0, 1), row(block(2, b, a), b))
	foldIs(t, 2, singles(0, 0, 1, 0, 1), row(a, block(2, a, b)))
	foldIs(t, 1, row(block(2, a), a, a), row(block(2, a), block(2, a)))
	foldIs(t, 1, row(block(2, a), block(2, a)), row(block(2, block(2, a))))
	foldIs(t, 1, row(block(1, a), block(1, a), a), row(block(2, block(1, a)), a))
	foldIs(t, 2, row(block(2, a, b), a, b), row(block(2, a, b), a, b))
	foldIs(t, 1, row(a), row(a))
}

// TestWithinIsLeft is P17.1: Bodies are not folded, though they could be.
func TestWithinIsLeft(t *testing.T) {
	inner := block(3, singles(0, 0, 1, 1)...)
	foldIs(t, 1, row(inner, leaf(0, 1)), row(inner, leaf(0, 1)))
	foldIs(t, 1, row(inner, inner), row(block(2, inner)))
	foldIs(t, 1, row(block(1, leaf(0, 1))), row(block(1, leaf(0, 1))))
}

// TestDeep is P17.1: a row that is folded to more than 16 blocks within one another, and rows that are nearly so deep.
func TestDeep(t *testing.T) {
	for blocks := range 17 {
		deep := within(blocks, leaf(1, 1))
		for width := 1; width <= 16; width++ {
			body := append(slices.Repeat(singles(2), width-1), deep)
			twice := slices.Repeat(body, 2)
			if blocks == 16 {
				foldRefuses(t, api.ErrDeep, width, twice...)
				foldRefuses(t, api.ErrDeep, width, slices.Concat(singles(5), twice, singles(6))...)
				foldRefuses(t, api.ErrDeep, width, slices.Concat(twice, row(within(16, leaf(9, 1))))...)
			} else {
				foldIs(t, width, twice, row(block(2, body...)))
			}
			foldIs(t, width, body, foldedOf(width, body))
		}
	}
	deep := within(16, leaf(0, 1))
	foldIs(t, 1, row(deep, leaf(1, 1), leaf(1, 1), deep), row(deep, block(2, leaf(1, 1)), deep))
	foldIs(t, 1, row(deep, within(16, leaf(1, 1))), row(deep, within(16, leaf(1, 1))))
	foldIs(t, 2, row(deep, deep), row(deep, deep))
	foldIs(t, 3, row(deep, deep, deep, deep, deep), row(deep, deep, deep, deep, deep))
	foldRefuses(t, api.ErrDeep, 2, deep, deep, deep, deep)
}

// TestEverySmallRow is P17.1 and P17.3: all rows of some loops, up to so long, at every width against a model.
func TestEverySmallRow(t *testing.T) {
	folds := 0
	look := func(of []api.Loop) {
		more, _ := foldAgrees(t, of...)
		folds += more
	}
	every(9, singles(0, 1), look)
	every(6, singles(0, 1, 2), look)
	every(5, row(leaf(0, 1), leaf(0, 2), block(1, leaf(0, 1)), block(2, leaf(0, 1))), look)
	every(4, row(leaf(1, 1), leaf(0, 1), block(1, singles(0, 1)...), block(1, singles(1, 0)...), block(1, block(1, leaf(0, 1)), leaf(1, 1)), within(16, leaf(3, 2))), look)
	if folds < 4000 {
		t.Errorf("%d folds only", folds)
	}
}

// TestMixed is P17.1 and P17.3: many rows of loops within one another, at every width against a model.
func TestMixed(t *testing.T) {
	c := chance(171)
	folds, deep := 0, 0
	for range 1500 {
		of := c.row(pick(&c, 3, 10, 40, 200, 2048), c.below(4))
		if c.below(5) == 0 {
			around := within(12+c.below(4), block(1, of[:min(len(of), 3)]...))
			of = slices.Concat(row(around, around), of[:min(len(of), 900)])
		}
		if nest.Check(of...) != api.OK {
			continue
		}
		more, tooDeep := foldAgrees(t, of...)
		folds, deep = folds+more, deep+tooDeep
	}
	if folds < 2000 || deep < 50 {
		t.Errorf("%d folds and %d that are too deep only", folds, deep)
	}
}

// TestLongRows is P17.1 and P17.3: rows of as many loops as there may be.
func TestLongRows(t *testing.T) {
	c := chance(172)
	for _, period := range []int{1, 2, 3, 5, 7, 8, 15, 16, 17, 31, 32} {
		of := singles(slices.Repeat(upTo(period), 2048/period+1)[:2048]...)
		foldAgrees(t, of...)
		of[1+c.below(2047)].Node = 31
		foldAgrees(t, of...)
	}
	deep := make([]api.Loop, 2048)
	for i := range deep {
		deep[i] = within(15, leaf(i%3, 1))
	}
	foldIs(t, 3, deep, append(row(block(682, deep[:3]...)), deep[2046:]...))
	foldIs(t, 16, deep, deep)
	foldRefuses(t, api.ErrDeep, 1, slices.Repeat(row(within(16, leaf(0, 1))), 2048)...)
	foldIs(t, 1, slices.Repeat(row(within(15, leaf(0, 1))), 2048), row(block(2048, within(15, leaf(0, 1)))))
}

// TestFoldOfFolded is P17.3: a row that is folded again and again, at whatever widths, fires as it did, and never grows.
func TestFoldOfFolded(t *testing.T) {
	c := chance(173)
	for range 400 {
		of := c.row(pick(&c, 10, 40, 200, 2048), c.below(3))
		want := firingsOf(of)
		for range 12 {
			folded, e := loops.Fold(1+c.below(5), of...)
			if e == api.ErrDeep {
				break
			}
			if e != api.OK || len(folded) > len(of) || !slices.Equal(firingsOf(folded), want) {
				t.Fatalf("%s: %s %v", told(of), told(folded), e)
			}
			of = folded
		}
	}
}
