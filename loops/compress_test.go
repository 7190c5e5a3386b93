package loops_test

import (
	"slices"
	"testing"

	"pianola/api"
)

// TestCompressExamples is P17.2: the chapter's examples.
func TestCompressExamples(t *testing.T) {
	compressIs(t, nil)
	compressIs(t, []int{3, 3, 3}, leaf(3, 3))
	compressIs(t, []int{0, 1, 1, 0, 1, 1}, block(2, leaf(0, 1), leaf(1, 2)))
	compressIs(t, []int{0, 1, 0, 1, 2, 0, 1, 0, 1, 2}, block(2, block(2, singles(0, 1)...), leaf(2, 1)))
	compressIs(t, []int{0, 0, 1, 0, 0, 1, 0}, block(2, leaf(0, 2), leaf(1, 1)), leaf(0, 1))
	compressIs(t, []int{0, 1, 0, 2, 0, 1, 0, 2, 0}, block(2, singles(0, 1, 0, 2)...), leaf(0, 1))
	compressRefuses(t, api.ErrNode, 32)
	compressRefuses(t, api.ErrNode, -1)
}

// TestWholeExamples is P17.2: the lists and the loops of the document's examples of the whole.
func TestWholeExamples(t *testing.T) {
	compressIs(t, []int{0, 0, 1, 0, 1}, leaf(0, 2), leaf(1, 1), leaf(0, 1), leaf(1, 1))
	compressIs(t, []int{0, 0, 1}, leaf(0, 2), leaf(1, 1))
	compressIs(t, []int{0, 1, 2, 1, 2}, leaf(0, 1), block(2, singles(1, 2)...))
	compressIs(t, []int{0, 1}, singles(0, 1)...)
}

// TestLong is P17.2: up to 2048 numbers; more are too many, whatever they are.
func TestLong(t *testing.T) {
	compressIs(t, make([]int, 2047), leaf(0, 2047))
	compressIs(t, make([]int, 2048), leaf(0, 2048))
	for _, many := range []int{2049, 2050, 4096, 1000000} {
		compressRefuses(t, api.ErrLong, make([]int, many)...)
		compressRefuses(t, api.ErrLong, slices.Repeat([]int{32}, many)...)
		compressRefuses(t, api.ErrLong, slices.Repeat([]int{0, -1}, many/2+1)...)
		last := make([]int, many)
		last[many-1] = greatest
		compressRefuses(t, api.ErrLong, last...)
	}
}

// TestNodes is P17.2: numbers from 0 to 31 and no others, at every place of a list.
func TestNodes(t *testing.T) {
	for node := range 32 {
		compressIs(t, []int{node}, leaf(node, 1))
		compressIs(t, []int{node, 31 - node, node, 31 - node}, block(2, singles(node, 31-node)...))
	}
	for _, none := range []int{least, least + 1, -1 << 32, -32, -1, 32, 33, 64, 1 << 32, 1<<32 + 1, greatest} {
		compressRefuses(t, api.ErrNode, none)
		compressRefuses(t, api.ErrNode, none, none, none)
		for at := range 9 {
			compressRefuses(t, api.ErrNode, slices.Insert([]int{0, 1, 0, 1, 2, 2, 0, 1}, at, none)...)
		}
		for _, at := range []int{0, 1, 1000, 2046, 2047} {
			list := slices.Repeat([]int{0, 1}, 1024)
			list[at] = none
			compressRefuses(t, api.ErrNode, list...)
		}
	}
}

// TestWidest is P17.2: rounds of up to 16 runs are folded; longer ones only if they become as short.
func TestWidest(t *testing.T) {
	for wide := 2; wide <= 32; wide++ {
		for _, rounds := range []int{2, 3, 2048 / wide} {
			list := slices.Repeat(upTo(wide), rounds)
			if wide <= 16 {
				compressIs(t, list, block(rounds, singles(upTo(wide)...)...))
			} else {
				compressIs(t, list, singles(list...)...)
			}
		}
	}
	round := append(slices.Repeat([]int{20, 21}, 2), upTo(15)...)
	compressIs(t, slices.Repeat(round, 2), block(2, append(row(block(2, singles(20, 21)...)), singles(upTo(15)...)...)...))
	round = append(slices.Repeat([]int{20, 21}, 2), upTo(16)...)
	pair := row(block(2, singles(20, 21)...))
	compressIs(t, slices.Repeat(round, 2), slices.Repeat(append(pair, singles(upTo(16)...)...), 2)...)
}

// TestAgain is P17.2: behind each fold the width is 1 again, so that what has become narrow is folded, however wide the fold was.
func TestAgain(t *testing.T) {
	pair := block(2, singles(0, 1)...)
	compressIs(t, []int{0, 1, 0, 1, 2, 0, 1, 0, 1, 2, 3, 0, 1, 0, 1, 2, 0, 1, 0, 1, 2, 3},
		block(2, block(2, pair, leaf(2, 1)), leaf(3, 1)))
	four := block(2, singles(1, 2, 3, 2)...)
	compressIs(t, []int{0, 1, 2, 3, 2, 1, 2, 3, 2, 1, 0, 1, 2, 3, 2, 1, 2, 3, 2, 1},
		block(2, leaf(0, 1), four, leaf(1, 1)))
	four = block(2, singles(1, 3, 1, 0)...)
	compressIs(t, []int{1, 3, 1, 0, 1, 3, 1, 0, 2, 1, 3, 1, 0, 1, 3, 1, 0, 2, 0, 0},
		block(2, four, leaf(2, 1)), leaf(0, 2))
	three := block(2, singles(0, 1, 2)...)
	compressIs(t, []int{0, 1, 2, 0, 1, 2, 3, 0, 1, 2, 0, 1, 2, 3, 4, 5, 6, 7, 4, 5, 6, 7},
		block(2, three, leaf(3, 1)), block(2, singles(4, 5, 6, 7)...))
	for wide := 3; wide <= 15; wide++ {
		round := append(slices.Repeat(upTo(wide), 3), 31)
		compressIs(t, slices.Repeat(round, 5), block(5, block(3, singles(upTo(wide)...)...), leaf(31, 1)))
	}
}

// TestNarrowFirst is P17.2: the least width that folds anything comes first, and the first place of a pass, whatever a wider or a later fold would have made.
func TestNarrowFirst(t *testing.T) {
	compressIs(t, []int{0, 1, 0, 1, 0, 2, 0, 1, 0, 1, 0, 2}, block(2, block(2, singles(0, 1)...), leaf(0, 1), leaf(2, 1)))
	compressIs(t, []int{0, 1, 0, 1, 2, 0, 1, 2}, block(2, singles(0, 1)...), leaf(2, 1), leaf(0, 1), leaf(1, 1), leaf(2, 1))
	compressIs(t, []int{0, 1, 2, 0, 1, 2, 1, 2}, leaf(0, 1), leaf(1, 1), leaf(2, 1), leaf(0, 1), block(2, singles(1, 2)...))
	compressIs(t, []int{0, 1, 0, 1, 0}, block(2, singles(0, 1)...), leaf(0, 1))
}

// TestOneNode is P17.4: a list of one node alone is one leaf.
func TestOneNode(t *testing.T) {
	for node := range 32 {
		for _, many := range []int{1, 2, 3, 16, 17, 100, 2047, 2048} {
			compressIs(t, slices.Repeat([]int{node}, many), leaf(node, many))
		}
	}
}

// TestTwoNodes is P17.4: a row that changes between two nodes, always as often the one and the other one, is one block of two leaves, if it has two rounds or more; one round has nothing that is there twice (P17.2).
func TestTwoNodes(t *testing.T) {
	for _, first := range []int{1, 2, 3, 16, 31, 500} {
		for _, second := range []int{1, 2, 5, 17, 523} {
			round := slices.Concat(slices.Repeat([]int{7}, first), slices.Repeat([]int{31}, second))
			compressIs(t, round, leaf(7, first), leaf(31, second))
			for rounds := 2; rounds*len(round) <= 2048; rounds++ {
				list := slices.Repeat(round, rounds)
				compressIs(t, list, block(rounds, leaf(7, first), leaf(31, second)))
				if rounds < 20 {
					follows(t, list)
				}
			}
		}
	}
}

// TestEverySmallList is P17.2 and P17.4: all lists of a few nodes, up to so long, against a model.
func TestEverySmallList(t *testing.T) {
	met := map[int]int{}
	look := func(list []int) { met[compressAgrees(t, list)]++ }
	every(11, []int{0, 31}, look)
	every(8, []int{0, 1, 2}, look)
	every(6, []int{0, 1, 2, 3}, look)
	if met[0] < 1000 || met[1] < 1000 {
		t.Error("too few of a kind", met)
	}
}

// TestMixedLists is P17.2 and P17.4: many lists in which pieces stand several times, within one another, against a model.
func TestMixedLists(t *testing.T) {
	c := chance(174)
	met := map[int]int{}
	for range 3000 {
		met[compressAgrees(t, c.list(pick(&c, 10, 30, 100, 400, 2048)))]++
	}
	for deep := range 5 {
		if met[deep] < 50 {
			t.Error("too few of a kind", met)
		}
	}
}

// TestExpandedRows is P17.2 and P17.4: lists that rows of loops expand to.
func TestExpandedRows(t *testing.T) {
	c := chance(175)
	for range 500 {
		list := firingsOf(c.row(pick(&c, 10, 40, 200, 2048), c.below(6)))
		compressAgrees(t, list)
	}
}

// TestDeepest is P17.4: rounds within rounds, as many as a list has room for.
func TestDeepest(t *testing.T) {
	list, want := []int{0, 1}, singles(0, 1)
	for deep := 1; 2*len(list) <= 2048; deep++ {
		twice := slices.Repeat(list, 2)
		folded := block(2, want...)
		compressIs(t, twice, folded)
		follows(t, twice)
		if got := deepOf(row(folded)); got != deep {
			t.Fatalf("%d, not %d", got, deep)
		}
		list, want = append(twice, 1+deep), row(folded, leaf(1+deep, 1))
	}
	if deepOf(want) < 9 {
		t.Errorf("%d blocks within one another only", deepOf(want))
	}
}

// TestNothingTwice is P17.2 and P17.4: long lists without anything that stands twice side by side stay as many leaves as they have runs.
func TestNothingTwice(t *testing.T) {
	// How often 1 stands between two 0s in the row of Thue and Morse: no piece of it stands twice side by side.
	var counts []int
	for n, ones := 0, 0; len(counts) < 2048; n++ {
		if parity(n) == 1 {
			ones++
			continue
		}
		if n > 0 {
			counts = append(counts, ones)
		}
		ones = 0
	}
	if at := slices.IndexFunc(counts, func(n int) bool { return n > 2 }); at >= 0 {
		t.Fatalf("%d at %d", counts[at], at)
	}
	compressIs(t, counts, singles(counts...)...)
	follows(t, counts)
	var twice []int
	for _, node := range counts[:1024] {
		twice = append(twice, node, node)
	}
	compressIs(t, twice, runsOf(twice)...)
	follows(t, twice)
}

// parity tells whether a number has an odd number of binary ones.
func parity(n int) int {
	odd := 0
	for ; n > 0; n /= 2 {
		odd ^= n % 2
	}
	return odd
}
