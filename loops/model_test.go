package loops_test

import (
	"slices"
	"strconv"
	"strings"
	"testing"

	"pianola/api"
	"pianola/loops"
	"pianola/nest"
)

const (
	least    = -9223372036854775808
	greatest = 9223372036854775807
)

func leaf(node, times int) api.Loop { return api.Loop{Times: times, Node: node} }

func block(times int, body ...api.Loop) api.Loop { return api.Loop{Times: times, Body: body} }

func row(loops ...api.Loop) []api.Loop { return loops }

// singles are leaves that fire once.
func singles(nodes ...int) []api.Loop {
	var all []api.Loop
	for _, node := range nodes {
		all = append(all, leaf(node, 1))
	}
	return all
}

// within is a loop within so many blocks, each of which goes round once.
func within(blocks int, loop api.Loop) api.Loop {
	for range blocks {
		loop = block(1, loop)
	}
	return loop
}

// upTo are the numbers from 0 on, so many.
func upTo(many int) []int {
	var all []int
	for number := range many {
		all = append(all, number)
	}
	return all
}

// same tells whether two rows have the same loops at the same places.
func same(a, b []api.Loop) bool {
	if len(a) != len(b) {
		return false
	}
	for i := range a {
		if a[i].Times != b[i].Times || a[i].Node != b[i].Node || !same(a[i].Body, b[i].Body) {
			return false
		}
	}
	return true
}

// group is the k-th group of a row at a width, and whether it stands there wholly.
func group(width, k int, of []api.Loop) ([]api.Loop, bool) {
	if (k+1)*width > len(of) {
		return nil, false
	}
	return of[k*width : (k+1)*width], true
}

// alikeOf is how many groups of a row, from the first one on, are the same as the first one.
func alikeOf(width int, of []api.Loop) int {
	first, wholly := group(width, 0, of)
	if !wholly {
		return 0
	}
	for m := 1; ; m++ {
		next, wholly := group(width, m, of)
		if !wholly || !same(first, next) {
			return m
		}
	}
}

// foldedOf is a row folded at a width, by the chapter's words.
func foldedOf(width int, of []api.Loop) []api.Loop {
	var folded []api.Loop
	for len(of) > 0 {
		if m := alikeOf(width, of); m > 1 {
			folded = append(folded, block(m, of[:width]...))
			of = of[m*width:]
			continue
		}
		folded = append(folded, of[0])
		of = of[1:]
	}
	return folded
}

// runsOf are a list's maximal runs, as leaves.
func runsOf(list []int) []api.Loop {
	var all []api.Loop
	for len(list) > 0 {
		times := 1
		for times < len(list) && list[times] == list[0] {
			times++
		}
		all = append(all, leaf(list[0], times))
		list = list[times:]
	}
	return all
}

// compressedOf is what P17.2 makes of a list.
func compressedOf(list []int) []api.Loop {
	all := runsOf(list)
	for width := 1; width <= 16 && width*2 <= len(all); {
		folded := foldedOf(width, all)
		if len(folded) < len(all) {
			all, width = folded, 1
			continue
		}
		width++
	}
	return all
}

// deepOf is the greatest depth at which a block stands.
func deepOf(loops []api.Loop) int {
	deep := 0
	for _, loop := range loops {
		if len(loop.Body) > 0 {
			deep = max(deep, 1+deepOf(loop.Body))
		}
	}
	return deep
}

// firingsOf are a sound nest's.
func firingsOf(loops []api.Loop) []int {
	var list []int
	for _, loop := range loops {
		once := []int{loop.Node}
		if len(loop.Body) > 0 {
			once = firingsOf(loop.Body)
		}
		list = append(list, slices.Repeat(once, loop.Times)...)
	}
	return list
}

// told is a nest as the chapter writes it, its beginning if it is long.
func told(loops []api.Loop) string {
	var words []string
	for _, loop := range loops[:min(40, len(loops))] {
		word := strconv.Itoa(loop.Node)
		if len(loop.Body) > 0 {
			word = "(" + told(loop.Body) + ")"
		}
		words = append(words, word+"^"+strconv.Itoa(loop.Times))
	}
	if len(loops) > 40 {
		words = append(words, "..")
	}
	return strings.Join(words, " ")
}

// head are the first ones of a list, which may be too long to be told.
func head[T any](list []T) []T { return list[:min(40, len(list))] }

// foldIs fails, unless Fold answers this row.
func foldIs(t *testing.T, width int, of, want []api.Loop) {
	t.Helper()
	got, e := loops.Fold(width, of...)
	if e != api.OK || !same(got, want) {
		t.Fatalf("Fold(%d, %s): %s %v, not %s", width, told(of), told(got), e, told(want))
	}
}

// foldRefuses fails, unless Fold answers this error, and nothing beside it. (It does not tell the row, which may be within itself.)
func foldRefuses(t *testing.T, code api.Errno, width int, of ...api.Loop) {
	t.Helper()
	if got, e := loops.Fold(width, of...); e != code || len(got) != 0 {
		t.Fatalf("Fold at %d: %s %v, not %v", width, told(got), e, code)
	}
}

// foldAgrees fails, unless Fold of a sound row answers at every width what the model says, and P17.3 holds; it tells how often it folded anything, and how often that was too deep.
func foldAgrees(t *testing.T, of ...api.Loop) (folds, deep int) {
	t.Helper()
	for width := 1; width <= 16; width++ {
		want := foldedOf(width, of)
		if deepOf(want) > 16 {
			foldRefuses(t, api.ErrDeep, width, of...)
			deep++
			continue
		}
		foldIs(t, width, of, want)
		keeps(t, width, of)
		if len(want) < len(of) {
			folds++
		}
	}
	return folds, deep
}

// keeps fails, unless P17.3 holds of a row that is not folded too deep.
func keeps(t *testing.T, width int, of []api.Loop) {
	t.Helper()
	got, _ := loops.Fold(width, of...)
	before, e := nest.Expand(of...)
	if e != api.OK {
		t.Fatalf("%s: %v", told(of), e)
	}
	behind, e := nest.Expand(got...)
	if e != api.OK || !slices.Equal(before, behind) || !slices.Equal(before, firingsOf(got)) {
		t.Fatalf("Fold(%d, %s) fires %v %v, not %v", width, told(of), head(behind), e, head(before))
	}
	if len(got) > len(of) {
		t.Fatalf("Fold(%d, %s) is longer: %s", width, told(of), told(got))
	}
}

// compressIs fails, unless Compress answers this row.
func compressIs(t *testing.T, list []int, want ...api.Loop) {
	t.Helper()
	got, e := loops.Compress(list...)
	if e != api.OK || !same(got, want) {
		t.Fatalf("Compress(%v): %s %v, not %s", head(list), told(got), e, told(want))
	}
}

// compressRefuses fails, unless Compress answers this error, and nothing beside it.
func compressRefuses(t *testing.T, code api.Errno, list ...int) {
	t.Helper()
	if got, e := loops.Compress(list...); e != code || len(got) != 0 {
		t.Fatalf("Compress(%v): %s %v, not %v", head(list), told(got), e, code)
	}
}

// compressAgrees fails, unless Compress of a list of nodes answers what the model says, and P17.4 holds; it tells the depth.
func compressAgrees(t *testing.T, list []int) int {
	t.Helper()
	want := compressedOf(list)
	compressIs(t, list, want...)
	follows(t, list)
	return deepOf(want)
}

// follows fails, unless what P17.4 says of all answers of Compress holds.
func follows(t *testing.T, list []int) {
	t.Helper()
	got, _ := loops.Compress(list...)
	size, e := nest.Measure(got...)
	if e != api.OK {
		t.Fatalf("Compress(%v): %s is no sound nest: %v", head(list), told(got), e)
	}
	if fires, _ := nest.Expand(got...); !slices.Equal(fires, list) || !slices.Equal(firingsOf(got), list) {
		t.Fatalf("Compress(%v): %s fires %v", head(list), told(got), head(fires))
	}
	runs := len(runsOf(list))
	if size.Firings > runs || size.Heads+onceOf(got) > runs || size.Deep > 11 {
		t.Fatalf("Compress(%v): %s has %v and %d leaves that fire once, by %d runs", head(list), told(got), size, onceOf(got), runs)
	}
	for width := 1; width <= 16; width++ {
		foldIs(t, width, got, got)
	}
}

// onceOf is how many leaves fire once.
func onceOf(loops []api.Loop) int {
	once := 0
	for _, loop := range loops {
		if len(loop.Body) == 0 && loop.Times == 1 {
			once++
		}
		once += onceOf(loop.Body)
	}
	return once
}
