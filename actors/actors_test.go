package actors_test

import (
	"slices"
	"testing"

	"pianola/actors"
	"pianola/api"
	"pianola/shape"
)

func list(xs ...int) []int { return xs }

func lists(ports ...[]int) [][]int { return ports }

func many(n, x int) []int { return slices.Repeat([]int{x}, n) }

func same(a, b [][]int) bool { return slices.EqualFunc(a, b, slices.Equal[[]int]) }

// chance is a row of numbers that is the same in each run.
type chance uint64

func (c *chance) below(n int) int {
	*c = *c*6364136223846793005 + 1442695040888963407
	return int(uint64(*c) >> 33 % uint64(n))
}

// token is a small one, or one at an edge.
func (c *chance) token() int {
	edges := []int{least, least + 1, least / 2, -4294967296, -3037000500, -1, 0, 1, 2, 3037000499, 3037000500, 4294967296, greatest / 2, greatest - 1, greatest}
	if c.below(4) == 0 {
		return edges[c.below(len(edges))]
	}
	return c.below(41) - 20
}

func (c *chance) tokens(n int) []int {
	row := make([]int, n)
	for i := range row {
		row[i] = c.token()
	}
	return row
}

// body is a new actor.
func body(t *testing.T, tag api.Tag, p ...int) *actors.Body {
	t.Helper()
	b, e := actors.New(tag, p...)
	if b == nil || e != api.OK {
		t.Fatalf("New(%d, %v): %v %v", tag, p, b, e)
	}
	return b
}

// fires fails, unless Fire answers this.
func fires(t *testing.T, b *actors.Body, ins, outs [][]int, e api.Errno) {
	t.Helper()
	got, f := b.Fire(ins...)
	if f != e || !same(got, outs) || f != api.OK && got != nil {
		t.Errorf("Fire %v: %v %v, not %v %v", ins, got, f, outs, e)
	}
}

// is fails, unless this is what the actor keeps, and how often it has fired.
func is(t *testing.T, b *actors.Body, state []int, fired int) {
	t.Helper()
	if !slices.Equal(b.State(), state) || b.Fired() != fired {
		t.Errorf("State %v, Fired %d, not %v, %d", b.State(), b.Fired(), state, fired)
	}
}

// like fails, unless an actor is as its model is, in all that it tells.
func like(t *testing.T, b *actors.Body, m *model) {
	t.Helper()
	is(t, b, m.kept, m.fired)
	ins, outs := b.Shape()
	if x, y := m.rates(); !slices.Equal(ins, x) || !slices.Equal(outs, y) {
		t.Errorf("Shape of %d, %v: %v %v, not %v %v", m.tag, m.p, ins, outs, x, y)
	}
}

// alike fails, unless an actor and its model answer the same.
func alike(t *testing.T, b *actors.Body, m *model, ins [][]int) {
	t.Helper()
	outs, e := m.fire(ins)
	fires(t, b, ins, outs, e)
	like(t, b, m)
}

// TestExamples is the chapter's examples.
func TestExamples(t *testing.T) {
	b := body(t, api.Filter, 1, 2)
	fires(t, b, lists(list(5)), lists(list(5)), api.OK)
	fires(t, b, lists(list(7)), lists(list(17)), api.OK)
	is(t, b, list(7), 2)
	fires(t, body(t, api.Up, 3), lists(list(4)), lists(list(4, 0, 0)), api.OK)
	fires(t, body(t, api.Down, 2), lists(list(8, 9)), lists(list(8)), api.OK)
	fires(t, body(t, api.Weave, 2, 2), lists(list(1, 2), list(3, 4)), lists(list(1, 3, 2, 4)), api.OK)
	fires(t, body(t, api.Unweave, 2, 2), lists(list(1, 3, 2, 4)), lists(list(1, 2), list(3, 4)), api.OK)
	fires(t, body(t, api.Add, 3), lists(list(1), list(-2), list(3)), lists(list(2)), api.OK)
	b = body(t, api.Quot)
	fires(t, b, lists(list(-7), list(2)), lists(list(-3)), api.OK)
	fires(t, b, lists(list(1), list(0)), nil, api.ErrFault)
	fires(t, b, lists(list(least), list(-1)), nil, api.ErrFault)
	b = body(t, api.Sum)
	fires(t, b, lists(list(4)), lists(list(4)), api.OK)
	fires(t, b, lists(list(greatest)), nil, api.ErrFault)
	fires(t, b, lists(list(-5)), lists(list(-1)), api.OK)
	is(t, b, list(-1), 2)
	fires(t, body(t, api.Copy, 2), lists(list(6)), lists(list(6), list(6)), api.OK)
	b = body(t, api.Tick, 9, -2)
	fires(t, b, nil, lists(list(9)), api.OK)
	fires(t, b, nil, lists(list(7)), api.OK)
	is(t, b, list(5), 2)
	b = body(t, api.Tick, greatest, 1)
	fires(t, b, nil, nil, api.ErrFault)
	is(t, b, list(greatest), 0)
	b = body(t, api.Drop, 2)
	fires(t, b, lists(list(1, 2)), nil, api.OK)
	fires(t, b, lists(list(1)), nil, api.ErrArg)
	fires(t, body(t, api.Add, 2), lists(list(greatest), list(1)), nil, api.ErrFault)
}

// kind is a tag with parameters that it may have.
type kind struct {
	tag api.Tag
	p   []int
}

// kinds are several of each tag, at the limits too.
func kinds() []kind {
	return []kind{
		{api.Filter, list(1)}, {api.Filter, list(0)}, {api.Filter, list(-1)}, {api.Filter, list(least)}, {api.Filter, list(1, 2)}, {api.Filter, list(3, -2, 1)},
		{api.Filter, list(0, 0, 0, 1)}, {api.Filter, list(1, 10, 100, 1000, 10000)}, {api.Filter, many(16, 1)}, {api.Filter, many(16, -3)}, {api.Filter, list(1, 0, greatest)}, {api.Filter, list(1<<31, 1<<31, -1<<31)},
		{api.Up, list(1)}, {api.Up, list(2)}, {api.Up, list(3)}, {api.Up, list(64)},
		{api.Down, list(1)}, {api.Down, list(2)}, {api.Down, list(5)}, {api.Down, list(64)},
		{api.Weave, list(1, 1)}, {api.Weave, list(2, 3)}, {api.Weave, list(3, 2)}, {api.Weave, list(1, 64)}, {api.Weave, list(16, 1)}, {api.Weave, list(16, 4)},
		{api.Unweave, list(1, 1)}, {api.Unweave, list(2, 3)}, {api.Unweave, list(3, 2)}, {api.Unweave, list(1, 64)}, {api.Unweave, list(16, 1)}, {api.Unweave, list(16, 4)},
		{api.Add, list(1)}, {api.Add, list(2)}, {api.Add, list(3)}, {api.Add, list(16)},
		{api.Quot, nil}, {api.Sum, nil},
		{api.Copy, list(1)}, {api.Copy, list(2)}, {api.Copy, list(16)},
		{api.Tick, list(9, -2)}, {api.Tick, list(0, 0)}, {api.Tick, list(greatest-5, 2)}, {api.Tick, list(least+9, -4)}, {api.Tick, list(least, greatest)}, {api.Tick, list(greatest, least)}, {api.Tick, list(least, 0)},
		{api.Drop, list(1)}, {api.Drop, list(2)}, {api.Drop, list(64)},
	}
}

// given are lists that fit an actor's in-ports.
func (c *chance) given(m *model) [][]int {
	rates, _ := m.rates()
	ins := make([][]int, len(rates))
	for i, rate := range rates {
		ins[i] = c.tokens(rate)
	}
	return ins
}

// TestFirings is P7.1 to P7.5: each kind over many firings, those that fail among them, is as the table says.
func TestFirings(t *testing.T) {
	c := chance(20261116)
	faults, fired := map[api.Tag]int{}, map[api.Tag]int{}
	for _, k := range kinds() {
		for range 200 {
			b, m := body(t, k.tag, k.p...), modelOf(k.tag, k.p)
			like(t, b, m)
			for range 25 {
				alike(t, b, m, c.given(m))
			}
			fired[k.tag] += m.fired
			faults[k.tag] += 25 - m.fired
		}
	}
	for tag := api.Filter; tag <= api.Drop; tag++ {
		may := slices.Contains([]api.Tag{api.Filter, api.Add, api.Quot, api.Sum, api.Tick}, tag)
		if fired[tag] < 500 || faults[tag] > 0 != may || may && faults[tag] < 100 {
			t.Errorf("tag %d: %d firings, %d faults", tag, fired[tag], faults[tag])
		}
	}
}

// TestTickGoesOn is P7.3: the last firings of a Tick ahead of where it fails, and that it fails from then on.
func TestTickGoesOn(t *testing.T) {
	b := body(t, api.Tick, greatest-5, 2)
	fires(t, b, nil, lists(list(greatest-5)), api.OK)
	fires(t, b, nil, lists(list(greatest-3)), api.OK)
	for range 3 {
		fires(t, b, nil, nil, api.ErrFault)
		is(t, b, list(greatest-1), 2)
	}
	b = body(t, api.Tick, least+4, -4)
	fires(t, b, nil, lists(list(least+4)), api.OK)
	for range 3 {
		fires(t, b, nil, nil, api.ErrFault)
		is(t, b, list(least), 1)
	}
}

// TestQuot is P7.3: cut off towards 0, by every pair of signs and at the edges.
func TestQuot(t *testing.T) {
	b, m := body(t, api.Quot), modelOf(api.Quot, nil)
	numbers := []int{least, least + 1, -8, -7, -3, -2, -1, 0, 1, 2, 3, 7, 8, greatest - 1, greatest}
	for _, x := range numbers {
		for _, y := range numbers {
			alike(t, b, m, lists(list(x), list(y)))
		}
	}
	for _, c := range [][3]int{{7, 2, 3}, {-7, 2, -3}, {7, -2, -3}, {-7, -2, 3}, {1, 2, 0}, {-1, 2, 0}, {least, 1, least}, {least, least, 1}, {greatest, -1, -greatest}, {least + 1, -1, greatest}, {0, -1, 0}} {
		fires(t, b, lists(list(c[0]), list(c[1])), lists(list(c[2])), api.OK)
	}
	for _, x := range numbers {
		fires(t, b, lists(list(x), list(0)), nil, api.ErrFault)
	}
}

// over is a row of n tokens of 0, in which the two at the places before and at add up to what does not fit, and the ones behind bring it back.
func over(n, at, sign int) []int {
	row := make([]int, n)
	if sign > 0 {
		row[at-1], row[at] = greatest, 1
	} else {
		row[at-1], row[at] = least, -1
	}
	if at+1 < n {
		row[at+1] = -2 * sign
	}
	return row
}

// ports is a row's tokens, one a port.
func ports(row []int) [][]int {
	var ins [][]int
	for _, x := range row {
		ins = append(ins, list(x))
	}
	return ins
}

// TestAddFails is P7.3: a sum that does not fit, at each place, fails also where later tokens would bring it back.
func TestAddFails(t *testing.T) {
	for n := 2; n <= 16; n++ {
		b := body(t, api.Add, n)
		for at := 1; at < n; at++ {
			fires(t, b, ports(over(n, at, 1)), nil, api.ErrFault)
			fires(t, b, ports(over(n, at, -1)), nil, api.ErrFault)
			is(t, b, nil, 0)
		}
		row := make([]int, n)
		row[0], row[n-1] = greatest, least
		fires(t, b, ports(row), lists(list(-1)), api.OK)
		row[0], row[n-1] = least, greatest
		fires(t, b, ports(row), lists(list(-1)), api.OK)
		is(t, b, nil, 2)
	}
}

// TestFilterProductFails is P7.3: a product that does not fit, at each place, fails, and the actor keeps what it kept.
func TestFilterProductFails(t *testing.T) {
	for n := 1; n <= 16; n++ {
		for at := range n {
			for _, pair := range [][2]int{{2, 1 << 62}, {1 << 62, 2}, {-1, least}, {least, -1}, {3037000500, 3037000500}, {greatest, greatest}, {1 << 32, 1 << 32}} {
				taps := make([]int, n)
				taps[at] = pair[0]
				b := body(t, api.Filter, taps...)
				if at > 0 { // the token comes to its place by firings that give 0
					fires(t, b, lists(list(pair[1])), lists(list(0)), api.OK)
				}
				for range at - 1 {
					fires(t, b, lists(list(0)), lists(list(0)), api.OK)
				}
				kept, token := b.State(), 5
				if at == 0 {
					token = pair[1]
				}
				for range 3 {
					fires(t, b, lists(list(token)), nil, api.ErrFault)
					is(t, b, kept, at)
				}
			}
		}
	}
}

// TestFilterSumFails is P7.3: a sum that does not fit, at each place of the row, fails, also where a later product would bring it back.
func TestFilterSumFails(t *testing.T) {
	for n := 2; n <= 16; n++ {
		for at := 1; at < n; at++ {
			for _, sign := range []int{1, -1} {
				row := over(n, at, sign)
				taps := many(n, 1)
				clear(taps[:at-1]) // so that the two tokens are not added up till they are there
				b, m := body(t, api.Filter, taps...), modelOf(api.Filter, taps)
				for _, token := range slices.Backward(row[1:]) {
					alike(t, b, m, lists(list(token)))
				}
				is(t, b, row[1:], n-1)
				for range 2 {
					fires(t, b, lists(list(row[0])), nil, api.ErrFault)
					is(t, b, row[1:], n-1)
				}
			}
		}
	}
}

// TestSumFails is P7.3: a sum that does not fit fails on both sides, and the next one goes on from what was kept.
func TestSumFails(t *testing.T) {
	b := body(t, api.Sum)
	is(t, b, list(0), 0)
	fires(t, b, lists(list(greatest)), lists(list(greatest)), api.OK)
	fires(t, b, lists(list(1)), nil, api.ErrFault)
	fires(t, b, lists(list(greatest)), nil, api.ErrFault)
	is(t, b, list(greatest), 1)
	fires(t, b, lists(list(0)), lists(list(greatest)), api.OK)
	fires(t, b, lists(list(least)), lists(list(-1)), api.OK)
	fires(t, b, lists(list(least)), nil, api.ErrFault)
	fires(t, b, lists(list(least+1)), lists(list(least)), api.OK)
	fires(t, b, lists(list(-1)), nil, api.ErrFault)
	is(t, b, list(least), 4)
}

// TestWrongLists is P7.3: too few and too many lists, and lists with too few and too many tokens, are ErrArg, ahead of a firing that would fail.
func TestWrongLists(t *testing.T) {
	c := chance(7)
	for _, k := range kinds() {
		b, m := body(t, k.tag, k.p...), modelOf(k.tag, k.p)
		for range 5 {
			alike(t, b, m, c.given(m))
			fired := m.fired
			right := c.given(m)
			wrong := [][][]int{append(slices.Clone(right), nil), append(slices.Clone(right), list(1)), append(lists(nil), right...), append(lists(list(1)), right...)}
			for i, port := range right {
				swap := func(tokens []int) [][]int {
					ins := slices.Clone(right)
					ins[i] = tokens
					return ins
				}
				wrong = append(wrong, slices.Delete(slices.Clone(right), i, i+1), swap(nil), swap(list()), swap(port[1:]), swap(append(slices.Clone(port), 0)), swap(append(slices.Clone(port), port...)))
			}
			if len(right) > 1 {
				wrong = append(wrong, nil, right[:1], slices.Repeat(right, 2))
			}
			for _, ins := range wrong {
				fires(t, b, ins, nil, api.ErrArg)
				alike(t, b, m, ins)
			}
			if m.fired != fired {
				t.Errorf("%d, %v: a wrong list among them is right", k.tag, k.p)
			}
		}
	}
	fires(t, body(t, api.Quot), lists(list(1), list(0), list(1)), nil, api.ErrArg)
	fires(t, body(t, api.Quot), lists(list(1, 1), list(0)), nil, api.ErrArg)
	fires(t, body(t, api.Quot), lists(list(least), list(-1, 1)), nil, api.ErrArg)
	fires(t, body(t, api.Tick, greatest, 1), lists(nil), nil, api.ErrArg)
	fires(t, body(t, api.Add, 2), lists(list(greatest), list(1), list(0)), nil, api.ErrArg)
	fires(t, body(t, api.Weave, 2, 2), lists(list(1, 2, 3), list(4)), nil, api.ErrArg)
}

// TestNil is P7.3 and R2: a nil Body, and one that New did not make, have nothing.
func TestNil(t *testing.T) {
	for _, b := range []*actors.Body{nil, {}} {
		for _, ins := range [][][]int{nil, lists(nil), lists(list(1)), lists(list(1), list(2))} {
			fires(t, b, ins, nil, api.ErrNil)
		}
		is(t, b, nil, 0)
		if ins, outs := b.Shape(); len(ins)+len(outs) != 0 {
			t.Error(ins, outs)
		}
	}
}

// TestNew is P7.1 and P7.2: shape's error beside no actor; else an actor of shape's rates that has not fired.
func TestNew(t *testing.T) {
	numbers := []int{least, -1, 0, 1, 2, 4, 8, 9, 16, 17, 64, 65, greatest}
	params := [][]int{nil, many(15, 3), many(16, 3), many(17, 3), many(300, 1)}
	for _, x := range numbers {
		params = append(params, list(x))
		for _, y := range numbers {
			params = append(params, list(x, y), list(x, y, 1))
		}
	}
	for tag := range 256 {
		for _, p := range params {
			b, e := actors.New(api.Tag(tag), p...)
			ins, outs, f := shape.Of(api.Tag(tag), p...)
			if e != f || (b == nil) != (f != api.OK) {
				t.Errorf("New(%d, %v): %v %v, not %v", tag, p, b, e, f)
			}
			if b == nil {
				continue
			}
			like(t, b, modelOf(api.Tag(tag), p))
			if x, y := b.Shape(); !slices.Equal(x, ins) || !slices.Equal(y, outs) {
				t.Errorf("Shape of %d, %v: %v %v", tag, p, x, y)
			}
		}
	}
	for _, c := range []struct {
		tag api.Tag
		p   []int
		e   api.Errno
	}{{0, nil, api.ErrTag}, {12, list(1), api.ErrTag}, {255, nil, api.ErrTag}, {api.Up, nil, api.ErrParams}, {api.Filter, nil, api.ErrParams}, {api.Filter, many(17, 1), api.ErrParams}, {api.Tick, list(1), api.ErrParams}, {api.Weave, list(9, 8), api.ErrParams}, {api.Sum, list(1), api.ErrParams}} {
		if b, e := actors.New(c.tag, c.p...); b != nil || e != c.e {
			t.Errorf("New(%d, %v): %v %v", c.tag, c.p, b, e)
		}
	}
}

// scrawl writes into all of a list's room.
func scrawl(xs []int) {
	xs = xs[:cap(xs)]
	for i := range xs {
		xs[i] = -77
	}
}

// TestAnswersAreNew is R2: what is written into an answer, and into its room, is seen nowhere else.
func TestAnswersAreNew(t *testing.T) {
	c := chance(3)
	for _, k := range kinds() {
		b, m := body(t, k.tag, k.p...), modelOf(k.tag, k.p)
		for range 12 {
			ins := c.given(m)
			was, _ := m.fire(ins)
			outs, _ := b.Fire(ins...)
			for i := range outs {
				if !slices.Equal(outs[i], was[i]) {
					t.Errorf("%d, %v: port %d: %v, not %v", k.tag, k.p, i, outs[i], was[i])
				}
				scrawl(outs[i]) // the ports behind are still to be looked at
			}
			for _, port := range ins {
				if slices.Contains(port, -77) {
					t.Errorf("%d, %v: an answer shares memory with what was handed in", k.tag, k.p)
				}
			}
			outs = outs[:cap(outs)]
			clear(outs)
			scrawl(b.State())
			x, y := b.Shape()
			scrawl(x)
			if _, z := m.rates(); !slices.Equal(y, z) {
				t.Errorf("%d, %v: the two lists of Shape share memory", k.tag, k.p)
			}
			scrawl(y)
			like(t, b, m)
		}
	}
}

// roomy is a list with room behind it, that is not empty.
func roomy(xs []int) []int { return append(slices.Clone(xs), 55, 66)[: len(xs) : len(xs)+2] }

// TestHandedInIsLeft is R2: what is handed in, and the room behind it, is left as it was, and is neither kept nor read.
func TestHandedInIsLeft(t *testing.T) {
	c := chance(5)
	for _, k := range kinds() {
		p := roomy(k.p)
		b, m := body(t, k.tag, p...), modelOf(k.tag, k.p)
		if whole := append(slices.Clone(k.p), 55, 66); !slices.Equal(p[:cap(p)], whole) {
			t.Errorf("New(%d): %v, not %v", k.tag, p[:cap(p)], whole)
		}
		scrawl(p)
		for range 12 {
			right := c.given(m)
			ins := make([][]int, len(right), len(right)+1)
			ins[:len(right)+1][len(right)] = list(88)
			for i := range right {
				ins[i] = roomy(right[i])
			}
			alike(t, b, m, ins)
			for i := range right {
				if whole := append(slices.Clone(right[i]), 55, 66); !slices.Equal(ins[i][:cap(ins[i])], whole) {
					t.Errorf("Fire of %d, %v: %v, not %v", k.tag, k.p, ins[i][:cap(ins[i])], whole)
				}
				scrawl(ins[i])
			}
			if last := ins[:len(right)+1][len(right)]; !slices.Equal(last, list(88)) {
				t.Errorf("Fire of %d, %v: %v behind the lists", k.tag, k.p, last)
			}
			like(t, b, m)
		}
	}
}

// TestOneListOnAllPorts is P7.3: the same memory may be handed in on several ports.
func TestOneListOnAllPorts(t *testing.T) {
	x := list(3, 4)
	fires(t, body(t, api.Weave, 3, 2), lists(x, x, x), lists(list(3, 3, 3, 4, 4, 4)), api.OK)
	fires(t, body(t, api.Add, 3), lists(x[:1], x[:1], x[1:]), lists(list(10)), api.OK)
	fires(t, body(t, api.Quot), lists(x[:1], x[:1]), lists(list(1)), api.OK)
}

// TestApart is R2: actors know nothing of one another, also those of one tag and of the same list of parameters.
func TestApart(t *testing.T) {
	c := chance(11)
	for _, k := range kinds() {
		var bodies []*actors.Body
		var models []*model
		for range 4 {
			bodies = append(bodies, body(t, k.tag, k.p...))
			models = append(models, modelOf(k.tag, k.p))
		}
		for range 60 {
			i := c.below(3) // the last one never fires
			alike(t, bodies[i], models[i], c.given(models[i]))
			for j := range bodies {
				like(t, bodies[j], models[j])
			}
		}
		is(t, bodies[3], modelOf(k.tag, k.p).kept, 0)
	}
}
