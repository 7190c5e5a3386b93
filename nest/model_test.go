package nest_test

import (
	"math/big"
	"slices"
	"strconv"
	"strings"
	"testing"

	"pianola/api"
	"pianola/nest"
)

const (
	least    = -9223372036854775808
	greatest = 9223372036854775807
)

func leaf(node, times int) api.Loop { return api.Loop{Times: times, Node: node} }

func block(times int, body ...api.Loop) api.Loop { return api.Loop{Times: times, Body: body} }

// odd is a block that has a node.
func odd(node, times int, body ...api.Loop) api.Loop {
	return api.Loop{Times: times, Node: node, Body: body}
}

func row(loops ...api.Loop) []api.Loop { return loops }

// within is a loop within so many blocks, each of which goes round once.
func within(blocks int, loop api.Loop) api.Loop {
	for range blocks {
		loop = block(1, loop)
	}
	return loop
}

// ones are so many leaves that fire once.
func ones(many int) []api.Loop { return slices.Repeat(row(leaf(0, 1)), many) }

// stand is a loop of a nest, and the blocks that it is within, itself not counted.
type stand struct {
	api.Loop
	around []api.Loop
}

func (s stand) isLeaf() bool { return len(s.Body) == 0 }

func (s stand) depth() int {
	if s.isLeaf() {
		return len(s.around)
	}
	return len(s.around) + 1
}

// order are all loops of a nest, in its order.
func order(loops []api.Loop) []stand {
	var all []stand
	var from func(loops, around []api.Loop)
	from = func(loops, around []api.Loop) {
		for _, loop := range loops {
			all = append(all, stand{loop, around})
			if len(loop.Body) > 0 {
				from(loop.Body, append(slices.Clone(around), loop))
			}
		}
	}
	from(loops, nil)
	return all
}

// leaves are those of some loops that are such.
func leaves(of []stand) []stand {
	return slices.DeleteFunc(slices.Clone(of), func(s stand) bool { return !s.isLeaf() })
}

// totalOf is a nest's, however great: each leaf fires as often as its Times and those of all blocks around it, multiplied.
func totalOf(loops []api.Loop) *big.Int {
	total := new(big.Int)
	for _, s := range leaves(order(loops)) {
		product := big.NewInt(int64(s.Times))
		for _, b := range s.around {
			product.Mul(product, big.NewInt(int64(b.Times)))
		}
		total.Add(total, product)
	}
	return total
}

// refusal is what Check is to answer.
func refusal(loops []api.Loop) api.Errno {
	ahead := 0
	for _, s := range order(loops) {
		if ahead >= 2048 {
			return api.ErrTooBig
		}
		if s.depth() > 16 && !s.isLeaf() {
			return api.ErrDeep
		}
		if s.Times <= 0 {
			return api.ErrTimes
		}
		if !s.isLeaf() && s.Node != 0 {
			return api.ErrForm
		}
		if s.isLeaf() && (s.Node < 0 || s.Node > 31) {
			return api.ErrNode
		}
		if s.isLeaf() {
			ahead++
		}
	}
	if totalOf(loops).Cmp(big.NewInt(2048)) > 0 {
		return api.ErrTooBig
	}
	return api.OK
}

// sizeOf is a sound nest's.
func sizeOf(loops []api.Loop) api.Size {
	all := order(loops)
	size := api.Size{Firings: len(leaves(all)), Total: int(totalOf(loops).Int64())}
	for _, s := range all {
		if s.Times > 1 {
			size.Heads++
		}
		if !s.isLeaf() {
			size.Deep = max(size.Deep, s.depth())
		}
	}
	return size
}

// firingsOf are a sound nest's.
func firingsOf(loops []api.Loop) []int {
	var list []int
	for _, loop := range loops {
		once := []int{loop.Node}
		if len(loop.Body) > 0 {
			once = firingsOf(loop.Body)
		}
		list = append(list, slices.Repeat(once, loop.Times)...)
	}
	return list
}

// told is a nest as the chapter writes it, its beginning if it is long.
func told(loops []api.Loop) string {
	var words []string
	for _, loop := range loops[:min(40, len(loops))] {
		word := strconv.Itoa(loop.Node)
		if len(loop.Body) > 0 {
			word = "(" + told(loop.Body) + ")"
			if loop.Node != 0 {
				word = strconv.Itoa(loop.Node) + word
			}
		}
		words = append(words, word+"^"+strconv.Itoa(loop.Times))
	}
	if len(loops) > 40 {
		words = append(words, "..")
	}
	return strings.Join(words, " ")
}

// head are the first ones of a list, which may be too long to be told.
func head[T any](list []T) []T { return list[:min(40, len(list))] }

// refused fails, unless all calls answer that a nest is wrong in this way, and nothing beside it. (It does not tell the nest, which may be within itself.)
func refused(t *testing.T, code api.Errno, loops ...api.Loop) {
	t.Helper()
	if e := nest.Check(loops...); e != code {
		t.Fatalf("Check: %v, not %v", e, code)
	}
	if size, e := nest.Measure(loops...); e != code || size != (api.Size{}) {
		t.Fatalf("Measure: %v %v, not %v", size, e, code)
	}
	if list, e := nest.Expand(loops...); e != code || len(list) != 0 {
		t.Fatalf("Expand: %v %v, not %v", head(list), e, code)
	}
	for node := range nest.All(loops...) {
		t.Fatalf("All: a firing of %d, not %v", node, code)
	}
}

// is fails, unless all calls answer this of a nest.
func is(t *testing.T, loops []api.Loop, want api.Size, list []int) {
	t.Helper()
	if e := nest.Check(loops...); e != api.OK {
		t.Fatalf("%s: Check %v", told(loops), e)
	}
	if size, e := nest.Measure(loops...); e != api.OK || size != want {
		t.Fatalf("%s: Measure %v %v, not %v", told(loops), size, e, want)
	}
	if got, e := nest.Expand(loops...); e != api.OK || !slices.Equal(got, list) {
		t.Fatalf("%s: Expand %v %v, not %v", told(loops), head(got), e, head(list))
	}
	if got := slices.Collect(nest.All(loops...)); !slices.Equal(got, list) {
		t.Fatalf("%s: All %v, not %v", told(loops), head(got), head(list))
	}
}

// agrees fails, unless all calls answer what the model says; it tells Check's answer.
func agrees(t *testing.T, loops ...api.Loop) api.Errno {
	t.Helper()
	code := refusal(loops)
	if e := nest.Check(loops...); e != code {
		t.Fatalf("%s: Check %v, not %v", told(loops), e, code)
	}
	if code != api.OK {
		refused(t, code, loops...)
	} else {
		is(t, loops, sizeOf(loops), firingsOf(loops))
	}
	return code
}

// expanded is Expand's answer of a sound nest.
func expanded(t *testing.T, loops ...api.Loop) []int {
	t.Helper()
	list, e := nest.Expand(loops...)
	if e != api.OK {
		t.Fatalf("%s: %v", told(loops), e)
	}
	return list
}

// measured is Measure's answer of a sound nest.
func measured(t *testing.T, loops ...api.Loop) api.Size {
	t.Helper()
	size, e := nest.Measure(loops...)
	if e != api.OK {
		t.Fatalf("%s: %v", told(loops), e)
	}
	return size
}
