package nest_test

import (
	"slices"
	"testing"

	"pianola/api"
	"pianola/nest"
)

// TestExamples is P16.1 to P16.3: the chapter's examples.
func TestExamples(t *testing.T) {
	size := func(firings, heads, deep, total int) api.Size {
		return api.Size{Firings: firings, Heads: heads, Deep: deep, Total: total}
	}
	is(t, nil, size(0, 0, 0, 0), nil)
	is(t, row(leaf(2, 3), leaf(0, 1)), size(2, 1, 0, 4), []int{2, 2, 2, 0})
	is(t, row(block(3, leaf(1, 1), leaf(2, 2))), size(2, 2, 1, 9), []int{1, 2, 2, 1, 2, 2, 1, 2, 2})
	is(t, row(block(2, block(1, leaf(0, 1)), leaf(1, 2))), size(2, 2, 2, 6), []int{0, 1, 1, 0, 1, 1})
	is(t, row(leaf(0, 2048)), size(1, 1, 0, 2048), make([]int, 2048))
	refused(t, api.ErrTooBig, leaf(0, 2049))
	is(t, row(block(2, leaf(0, 1024))), size(1, 2, 1, 2048), make([]int, 2048))
	refused(t, api.ErrTooBig, block(2, leaf(0, 1025)))
	refused(t, api.ErrTimes, leaf(0, 0))
	refused(t, api.ErrNode, leaf(32, 1))
	refused(t, api.ErrNode, leaf(-1, 1))
	refused(t, api.ErrTimes, block(0, leaf(0, 1)))
	refused(t, api.ErrTimes, block(0, leaf(0, 0)))
	refused(t, api.ErrForm, odd(1, 1, leaf(0, 1)))
	refused(t, api.ErrTimes, odd(1, 0, leaf(0, 1)))
	is(t, row(within(16, leaf(0, 1))), size(1, 0, 16, 1), []int{0})
	refused(t, api.ErrDeep, within(17, leaf(0, 1)))
	refused(t, api.ErrTooBig, block(greatest, leaf(0, greatest)))
	refused(t, api.ErrTooBig, append(ones(2048), leaf(0, 0))...)
}

// TestEveryNumber is P16.1: Times and Node of a leaf and of a block, at all edges.
func TestEveryNumber(t *testing.T) {
	numbers := []int{least, least + 1, -1 << 32, -33, -2, -1, 0, 1, 2, 3, 15, 16, 17, 30, 31, 32, 33, 2047, 2048, 2049, 1 << 31, 1 << 32, 1<<32 + 1, 1 << 62, greatest - 1, greatest}
	met := map[api.Errno]int{}
	for _, times := range numbers {
		for _, node := range numbers {
			met[agrees(t, leaf(node, times))]++
			met[agrees(t, leaf(1, 1), block(2, leaf(node, times)))]++
			met[agrees(t, odd(node, times, leaf(3, 2)))]++
			met[agrees(t, block(1, odd(node, times, leaf(3, 1)), leaf(2, 1)))]++
		}
	}
	for _, e := range []api.Errno{api.OK, api.ErrTimes, api.ErrNode, api.ErrForm, api.ErrTooBig} {
		if met[e] < 20 {
			t.Errorf("%v: %d only", e, met[e])
		}
	}
	for node := range 32 {
		is(t, row(leaf(node, 1)), api.Size{Firings: 1, Total: 1}, []int{node})
	}
}

// TestEmptyBody is P16.1: a Body without loops is none, whether it is nil or not.
func TestEmptyBody(t *testing.T) {
	is(t, row(odd(31, 2, []api.Loop{}...)), api.Size{Firings: 1, Heads: 1, Total: 2}, []int{31, 31})
	is(t, row(api.Loop{Times: 1, Node: 5, Body: make([]api.Loop, 0, 9)}), api.Size{Firings: 1, Total: 1}, []int{5})
	is(t, []api.Loop{}, api.Size{}, nil)
	refused(t, api.ErrNode, api.Loop{Times: 1, Node: 32, Body: []api.Loop{}})
	refused(t, api.ErrTimes, api.Loop{Body: []api.Loop{}})
	is(t, row(within(16, api.Loop{Times: 1, Node: 7, Body: []api.Loop{}})), api.Size{Firings: 1, Deep: 16, Total: 1}, []int{7})
}

// TestOrderOfOne is P16.1: of one loop that is wrong in several ways, the first of them.
func TestOrderOfOne(t *testing.T) {
	full := ones(2048)
	for _, bad := range []api.Loop{leaf(0, 1), leaf(0, 0), leaf(32, 1), leaf(-1, least), block(1, leaf(0, 1)), block(0, leaf(0, 1)), odd(1, 1, leaf(0, 1)), within(16, leaf(0, 1)), within(17, leaf(0, 1)), block(0, leaf(32, 0)), leaf(0, greatest)} {
		refused(t, api.ErrTooBig, append(slices.Clone(full), bad)...)
		refused(t, api.ErrTooBig, block(1, full...), bad)
		refused(t, api.ErrTooBig, block(1, append(slices.Clone(full), bad)...))
		refused(t, api.ErrTooBig, within(15, block(1, append(slices.Clone(full), block(0, bad))...)))
	}
	for _, times := range []int{least, -1, 0, 1, 2, greatest} {
		for _, node := range []int{least, -1, 0, 1, greatest} {
			refused(t, api.ErrDeep, within(16, odd(node, times, leaf(0, 1))))
			refused(t, api.ErrDeep, within(16, odd(node, times, leaf(32, 0))))
			if times < 1 {
				refused(t, api.ErrTimes, odd(node, times, leaf(0, 1)))
				refused(t, api.ErrTimes, leaf(node, times))
				refused(t, api.ErrTimes, leaf(node-32, times))
				refused(t, api.ErrTimes, within(16, leaf(node, times)))
			}
		}
	}
}

// flaws are one nest of each kind of error that a loop has by itself.
func flaws() map[api.Errno]api.Loop {
	return map[api.Errno]api.Loop{
		api.ErrDeep:  within(17, leaf(1, 1)),
		api.ErrTimes: leaf(1, 0),
		api.ErrForm:  odd(1, 1, leaf(1, 1)),
		api.ErrNode:  leaf(32, 1),
	}
}

// TestOrderOfTwo is P16.1: of two loops that are wrong the first one in the nest's order, be it around the other one, within one ahead of it, or beside it; a total that is too great comes behind all of them.
func TestOrderOfTwo(t *testing.T) {
	for one, first := range flaws() {
		for _, second := range flaws() {
			refused(t, one, first, second)
			refused(t, one, leaf(3, 2), first, second)
			refused(t, one, block(2, first), second)
			refused(t, one, block(2, leaf(0, 1), first, second), second)
			refused(t, one, block(2, leaf(0, 1), block(1, first)), second)
		}
		refused(t, one, leaf(0, 2049), first)
		refused(t, one, first, leaf(0, 2049))
		refused(t, one, block(greatest, leaf(0, greatest)), first)
		refused(t, one, block(greatest, leaf(0, greatest), first))
		refused(t, one, append(ones(2047), first)...)
		refused(t, api.ErrTimes, block(0, first))
		refused(t, api.ErrForm, odd(2, 1, first))
	}
}

// TestManyLeaves is P16.1: up to 2048 leaves, however they stand; one more, or a block behind them, is too much at once.
func TestManyLeaves(t *testing.T) {
	for _, many := range []int{2046, 2047, 2048, 2049, 2050} {
		flat := ones(many)
		shapes := [][]api.Loop{flat, row(block(1, flat...)), row(within(15, block(1, flat...)))}
		shapes = append(shapes, slices.Concat(row(block(1, flat[:1000]...)), flat[1000:]))
		shapes = append(shapes, slices.Concat(flat[:2000], row(within(10, block(1, flat[2000:]...)))))
		for _, shape := range shapes {
			if e := agrees(t, shape...); (e == api.OK) != (many <= 2048) {
				t.Fatalf("%d leaves: %v", many, e)
			}
		}
	}
	apart := make([]api.Loop, 2048)
	for i := range apart {
		apart[i] = within(16, leaf(i%32, 1))
	}
	is(t, apart, api.Size{Firings: 2048, Deep: 16, Total: 2048}, slices.Repeat(nodes(), 64))
	refused(t, api.ErrTooBig, append(slices.Clone(apart), within(16, leaf(0, 1)))...)
	refused(t, api.ErrTooBig, append(slices.Clone(apart), within(17, leaf(0, 1)))...)
	refused(t, api.ErrTooBig, ones(1000000)...)
	refused(t, api.ErrTooBig, block(1, ones(1000000)...))
	twice := slices.Repeat(row(leaf(0, 2)), 2048)
	refused(t, api.ErrTooBig, twice...)
	twice[2047].Node = 32
	refused(t, api.ErrNode, twice...)
}

// TestTotal is P16.1: up to 2048 firings, and no more; products and sums that pass 2^64 are not taken for small ones.
func TestTotal(t *testing.T) {
	for _, total := range []int{1, 2, 2047, 2048, 2049, 2050, 4096} {
		for times := 1; times <= total; times++ {
			if total%times != 0 {
				continue
			}
			is := agrees(t, block(times, leaf(1, total/times))) == api.OK
			also := agrees(t, block(times, block(1, leaf(1, total/times)))) == api.OK
			if want := total <= 2048; is != want || also != want {
				t.Fatalf("%d of %d: %v", times, total, is)
			}
		}
		if e := agrees(t, leaf(0, total/2), block(1, leaf(1, total-total/2))); total > 3 && (e == api.OK) != (total <= 2048) {
			t.Fatalf("%d: %v", total, e)
		}
	}
	const third = 6148914691236517206 // three times this is 2^64 + 2
	for _, loops := range [][]api.Loop{
		row(leaf(0, greatest)),
		row(leaf(0, greatest), leaf(0, 1)),
		row(leaf(0, greatest), leaf(0, greatest), leaf(0, 3)),
		row(leaf(0, 1<<62), leaf(0, 1<<62), leaf(0, 1<<62), leaf(0, 1<<62)),
		row(block(1<<32, leaf(0, 1<<32))),
		row(block(2, leaf(0, 1<<62), leaf(0, 1<<62))),
		row(block(4, leaf(0, 1<<62))),
		row(block(third, leaf(0, 3))),
		row(block(3, leaf(0, third))),
		row(block(3, block(third, leaf(0, 1)))),
		row(block(1<<16, block(1<<16, block(1<<16, block(1<<16, leaf(0, 1)))))),
		row(block(greatest, block(greatest, leaf(0, greatest), leaf(1, greatest)), leaf(0, greatest)), leaf(0, greatest)),
		row(block(greatest, leaf(0, 1)), leaf(0, greatest), leaf(0, 2)),
		row(leaf(0, 2049), block(1, leaf(0, 1))),
		row(leaf(0, 2048), leaf(0, 1)),
		row(leaf(0, 1), block(2, leaf(0, 1024))),
		row(block(1, leaf(0, 2048), leaf(1, 1))),
	} {
		if e := agrees(t, loops...); e != api.ErrTooBig {
			t.Fatalf("%s: %v", told(loops), e)
		}
	}
	deep := leaf(0, greatest)
	for range 16 {
		deep = block(greatest, deep)
	}
	refused(t, api.ErrTooBig, deep)
	refused(t, api.ErrTooBig, slices.Repeat(row(deep), 2048)...)
}

// TestDeep is P16.1 and P16.2: blocks up to 16 within one another, wherever they stand.
func TestDeep(t *testing.T) {
	for blocks := range 40 {
		e := agrees(t, within(blocks, leaf(4, 2)))
		if want := blocks <= 16; (e == api.OK) != want || !want && e != api.ErrDeep {
			t.Fatalf("%d: %v", blocks, e)
		}
		for _, shape := range [][]api.Loop{
			row(leaf(0, 1), within(blocks, leaf(4, 2)), leaf(0, 1)),
			row(within(16, leaf(0, 1)), within(blocks, leaf(4, 2))),
			row(within(3, leaf(0, 1)), within(blocks, block(2, leaf(4, 2), leaf(5, 1))), within(5, leaf(1, 1))),
			row(block(2, within(2, leaf(0, 1)), within(blocks, leaf(1, 1)), leaf(2, 1))),
		} {
			agrees(t, shape...)
		}
	}
	refused(t, api.ErrDeep, within(60000, leaf(0, 1)))
	refused(t, api.ErrTimes, within(15, block(0, within(10, leaf(0, 1)))))
	refused(t, api.ErrForm, within(15, odd(1, 1, within(10, leaf(0, 1)))))
}

// TestWithinItself is R1: bodies that are their own parts, or share theirs, end all the same, by the first error in the order.
func TestWithinItself(t *testing.T) {
	knot := func(times, node int, ahead, behind []api.Loop) []api.Loop {
		body := slices.Concat(ahead, row(api.Loop{}), behind)
		body[len(ahead)] = odd(node, times, body...)
		return body
	}
	refused(t, api.ErrDeep, knot(1, 0, nil, nil)...)
	refused(t, api.ErrDeep, knot(greatest, 0, nil, ones(5000))...)
	refused(t, api.ErrDeep, knot(2, 0, ones(3), row(leaf(32, 0)))...)
	refused(t, api.ErrDeep, knot(2, 0, ones(2048/17), nil)...)
	refused(t, api.ErrTooBig, knot(1, 0, ones(2048/16), nil)...)
	refused(t, api.ErrTooBig, knot(1, 0, ones(2048), nil)...)
	refused(t, api.ErrTimes, knot(0, 0, nil, nil)...)
	refused(t, api.ErrForm, knot(1, 3, ones(1), nil)...)
	refused(t, api.ErrNode, knot(1, 0, row(leaf(32, 1)), nil)...)
	for _, wide := range []int{1, 2, 3, 5, 2048, 5000} {
		loop := leaf(1, 1)
		for deep := 1; deep <= 17; deep++ {
			loop = block(1, slices.Repeat(row(loop), wide)...)
			refusedOrSound(t, loop, wide, deep)
		}
	}
}

// refusedOrSound looks at a loop that has, at each of its depths, as many parts as it is wide, all of them in the same memory.
func refusedOrSound(t *testing.T, loop api.Loop, wide, deep int) {
	t.Helper()
	many := 1
	for range deep {
		many = min(many*wide, 4096)
	}
	switch {
	case deep > 16:
		refused(t, api.ErrDeep, loop)
	case many > 2048:
		refused(t, api.ErrTooBig, loop)
	default:
		is(t, row(loop), api.Size{Firings: many, Deep: deep, Total: many}, slices.Repeat([]int{1}, many))
	}
}

// forests go through all rows of so many loops in all, within one another and beside one another, made of these.
func forests(many int, of []api.Loop, look func(loops []api.Loop)) {
	if many == 0 {
		look(nil)
		return
	}
	for within := range many {
		forests(within, of, func(body []api.Loop) {
			forests(many-1-within, of, func(rest []api.Loop) {
				for _, loop := range of {
					loop.Body = body
					look(slices.Concat(row(loop), rest))
				}
			})
		})
	}
}

// kinds are all loops of these times and nodes, without bodies.
func kinds(times, nodes []int) []api.Loop {
	var all []api.Loop
	for _, x := range times {
		for _, node := range nodes {
			all = append(all, leaf(node, x))
		}
	}
	return all
}

// TestEverySmallNest is P16.1 to P16.4: all nests of up to four loops, of some times and nodes, against a model.
func TestEverySmallNest(t *testing.T) {
	met := map[api.Errno]int{}
	look := func(loops []api.Loop) { met[agrees(t, loops...)]++ }
	for many := range 3 {
		forests(many, kinds([]int{-1, 0, 1, 2, 3, 1024, 2049, greatest}, []int{-1, 0, 1, 31, 32}), look)
	}
	forests(3, kinds([]int{0, 1, 2, 1500}, []int{0, 1, 32}), look)
	forests(4, kinds([]int{1, 3}, []int{0, 1}), look)
	forests(5, kinds([]int{1, 2}, []int{0}), look)
	for _, e := range []api.Errno{api.OK, api.ErrTimes, api.ErrForm, api.ErrNode, api.ErrTooBig} {
		if met[e] < 100 {
			t.Errorf("%v: %d only", e, met[e])
		}
	}
}

// TestMixed is P16.1 to P16.4: many nests, some of which are wrong in one or in several ways, against a model.
func TestMixed(t *testing.T) {
	c := chance(161)
	met := map[api.Errno]int{}
	deepest := 0
	for round := range 2000 {
		loops := c.nest(c.total(), pick(&c, 0, 1, 2, 4, 9, 16))
		for range round % 3 {
			c.spoil(loops)
		}
		met[agrees(t, loops...)]++
		if size, _ := nest.Measure(loops...); size.Deep > deepest {
			deepest = size.Deep
		}
	}
	for _, e := range []api.Errno{api.OK, api.ErrTimes, api.ErrDeep, api.ErrForm, api.ErrNode, api.ErrTooBig} {
		if met[e] < 50 {
			t.Errorf("%v: %d only", e, met[e])
		}
	}
	if deepest < 10 {
		t.Errorf("%d blocks within one another only", deepest)
	}
}
