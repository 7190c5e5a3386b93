package shape_test

import (
	"slices"
	"strings"
	"testing"

	"pianola/api"
	"pianola/shape"
)

const (
	least    = -9223372036854775808
	greatest = 9223372036854775807
)

func list(xs ...int) []int { return xs }

func many(n, x int) []int { return slices.Repeat([]int{x}, n) }

// row is one of the chapter's table: the greatest number that each parameter may be (0: any number), and the ports, told by them.
type row struct {
	tag       api.Tag
	word      string
	most      []int
	ins, outs func(p []int) []int
}

// The table's ports: none, one of 1, two of 1, one of n, one of n times m, n of 1, n of m.
func none(p []int) []int    { return nil }
func one(p []int) []int     { return list(1) }
func two(p []int) []int     { return list(1, 1) }
func oneOfN(p []int) []int  { return list(p[0]) }
func oneOfNM(p []int) []int { return list(p[0] * p[1]) }
func nOfOne(p []int) []int  { return many(p[0], 1) }
func nOfM(p []int) []int    { return many(p[0], p[1]) }

func table() []row {
	return []row{
		{1, "filter", nil, one, one},
		{2, "up", list(64), one, oneOfN},
		{3, "down", list(64), oneOfN, one},
		{4, "weave", list(16, 64), nOfM, oneOfNM},
		{5, "unweave", list(16, 64), oneOfNM, nOfM},
		{6, "add", list(16), nOfOne, one},
		{7, "quot", nil, two, one},
		{8, "sum", nil, one, one},
		{9, "copy", list(16), one, nOfOne},
		{10, "tick", list(0, 0), none, one},
		{11, "drop", list(64), oneOfN, none},
	}
}

// may tells whether a row's actor may have these parameters.
func (r row) may(p []int) bool {
	if r.tag == 1 {
		return len(p) >= 1 && len(p) <= 16
	}
	if len(p) != len(r.most) {
		return false
	}
	for i, most := range r.most {
		if most > 0 && (p[i] < 1 || p[i] > most) {
			return false
		}
	}
	return r.word != "weave" && r.word != "unweave" || p[0]*p[1] <= 64
}

// want is what the table says.
func want(tag api.Tag, p []int) ([]int, []int, api.Errno) {
	for _, r := range table() {
		if r.tag != tag {
			continue
		}
		if !r.may(p) {
			return nil, nil, api.ErrParams
		}
		return r.ins(p), r.outs(p), api.OK
	}
	return nil, nil, api.ErrTag
}

// of fails, unless Of answers this.
func of(t *testing.T, tag api.Tag, p, ins, outs []int, e api.Errno) {
	t.Helper()
	a, b, f := shape.Of(tag, p...)
	if f != e || !slices.Equal(a, ins) || !slices.Equal(b, outs) {
		t.Errorf("Of(%d, %v): %v %v %v, not %v %v %v", tag, p, a, b, f, ins, outs, e)
	}
}

// asTable fails, unless Of answers what the table says.
func asTable(t *testing.T, tag api.Tag, p ...int) {
	t.Helper()
	ins, outs, e := want(tag, p)
	of(t, tag, p, ins, outs, e)
}

// TestExamples is the chapter's examples.
func TestExamples(t *testing.T) {
	of(t, api.Up, list(3), list(1), list(3), api.OK)
	of(t, api.Weave, list(2, 3), list(3, 3), list(6), api.OK)
	of(t, api.Unweave, list(2, 3), list(6), list(3, 3), api.OK)
	of(t, api.Tick, list(-5, 0), nil, list(1), api.OK)
	of(t, api.Drop, list(64), list(64), nil, api.OK)
	of(t, api.Drop, list(65), nil, nil, api.ErrParams)
	of(t, api.Weave, list(9, 8), nil, nil, api.ErrParams)
	of(t, api.Sum, list(1), nil, nil, api.ErrParams)
	of(t, api.Filter, nil, nil, nil, api.ErrParams)
	of(t, 0, nil, nil, nil, api.ErrTag)
	of(t, 12, nil, nil, nil, api.ErrTag)
	if tag, e := shape.Tag("quot"); tag != api.Quot || e != api.OK {
		t.Error(tag, e)
	}
	if tag, e := shape.Tag("Quot"); tag != 0 || e != api.ErrTag {
		t.Error(tag, e)
	}
}

// TestTags is P6.1, P6.2 and P6.3: the tags are the table's, and no others, by any parameters.
func TestTags(t *testing.T) {
	tags := []api.Tag{api.Filter, api.Up, api.Down, api.Weave, api.Unweave, api.Add, api.Quot, api.Sum, api.Copy, api.Tick, api.Drop}
	for i, r := range table() {
		if r.tag != tags[i] {
			t.Errorf("%s: %d", r.word, tags[i])
		}
	}
	for tag := 12; tag <= 256; tag++ { // 256 is 0, round the back
		for _, p := range [][]int{nil, {}, {1}, {0}, {1, 1}, {2, 3}, {65}, {1, 2, 3}, {least}, many(16, 1), many(17, 1)} {
			of(t, api.Tag(tag), p, nil, nil, api.ErrTag)
		}
		if word, e := shape.Word(api.Tag(tag)); word != "" || e != api.ErrTag {
			t.Errorf("Word(%d): %q %v", api.Tag(tag), word, e)
		}
	}
}

// edges are numbers at the table's limits and at those of a number; of some the product does not fit, and wraps round to 0, to 1 or below 0.
func edges() []int {
	return []int{least, least + 1, -4294967296, -64, -16, -8, -1, 0, 1, 2, 3, 4, 5, 7, 8, 9, 15, 16, 17, 21, 22, 32, 33, 63, 64, 65, 128, 255, 256, 257, 4294967296, 1 << 62, greatest - 1, greatest}
}

// TestEdges is P6.1: each tag by each row of up to three edge numbers.
func TestEdges(t *testing.T) {
	for tag := api.Tag(0); tag <= 13; tag++ {
		asTable(t, tag)
		for _, a := range edges() {
			asTable(t, tag, a)
			for _, b := range edges() {
				asTable(t, tag, a, b)
				for _, c := range edges() {
					asTable(t, tag, a, b, c)
				}
			}
		}
	}
}

// TestSmallNumbers is P6.1: each tag by each number and each two numbers about the limits.
func TestSmallNumbers(t *testing.T) {
	for _, r := range table() {
		for n := -70; n <= 140; n++ {
			asTable(t, r.tag, n)
			for m := -70; m <= 140; m++ {
				asTable(t, r.tag, n, m)
			}
		}
	}
}

// TestHowMany is P6.1: each tag by as many parameters as there are up to some above MaxParams, and by very many.
func TestHowMany(t *testing.T) {
	for _, r := range table() {
		for n := range 40 {
			for _, x := range edges() {
				asTable(t, r.tag, many(n, x)...)
			}
		}
		asTable(t, r.tag, make([]int, 256)...)
		asTable(t, r.tag, many(257, 1)...)
		asTable(t, r.tag, many(65537, 1)...)
	}
}

// TestNamedEdges is P6.1: the edges, written out, so that no table's slip hides one.
func TestNamedEdges(t *testing.T) {
	for _, x := range []int{least, -1, 0, 65, 1 << 32, greatest} {
		for _, tag := range []api.Tag{api.Up, api.Down, api.Add, api.Copy, api.Drop} {
			of(t, tag, list(x), nil, nil, api.ErrParams)
		}
		for _, tag := range []api.Tag{api.Weave, api.Unweave} {
			of(t, tag, list(x, 1), nil, nil, api.ErrParams)
			of(t, tag, list(1, x), nil, nil, api.ErrParams)
			of(t, tag, list(x, x), nil, nil, api.ErrParams)
		}
		of(t, api.Tick, list(x, x), nil, list(1), api.OK)
		of(t, api.Filter, list(x), list(1), list(1), api.OK)
		of(t, api.Filter, many(16, x), list(1), list(1), api.OK)
		of(t, api.Filter, many(17, x), nil, nil, api.ErrParams)
		of(t, api.Quot, list(x), nil, nil, api.ErrParams)
	}
	of(t, api.Up, list(1), list(1), list(1), api.OK)
	of(t, api.Up, list(64), list(1), list(64), api.OK)
	of(t, api.Down, list(1), list(1), list(1), api.OK)
	of(t, api.Down, list(64), list(64), list(1), api.OK)
	of(t, api.Drop, list(1), list(1), nil, api.OK)
	of(t, api.Add, list(1), list(1), list(1), api.OK)
	of(t, api.Add, list(16), many(16, 1), list(1), api.OK)
	of(t, api.Add, list(17), nil, nil, api.ErrParams)
	of(t, api.Copy, list(1), list(1), list(1), api.OK)
	of(t, api.Copy, list(16), list(1), many(16, 1), api.OK)
	of(t, api.Copy, list(17), nil, nil, api.ErrParams)
	of(t, api.Quot, nil, list(1, 1), list(1), api.OK)
	of(t, api.Sum, nil, list(1), list(1), api.OK)
	of(t, api.Weave, list(1, 1), list(1), list(1), api.OK)
	of(t, api.Weave, list(1, 64), list(64), list(64), api.OK)
	of(t, api.Weave, list(16, 4), many(16, 4), list(64), api.OK)
	of(t, api.Weave, list(13, 5), nil, nil, api.ErrParams)
	of(t, api.Weave, list(16, 5), nil, nil, api.ErrParams)
	of(t, api.Weave, list(17, 3), nil, nil, api.ErrParams)
	of(t, api.Weave, list(64, 1), nil, nil, api.ErrParams)
	of(t, api.Unweave, list(16, 4), list(64), many(16, 4), api.OK)
	of(t, api.Unweave, list(5, 13), nil, nil, api.ErrParams)
	of(t, api.Unweave, list(17, 1), nil, nil, api.ErrParams)
}

// TestWords is P6.2, P6.3 and P6.4: the table's words, which Tag and Word take back from each other.
func TestWords(t *testing.T) {
	for _, r := range table() {
		if tag, e := shape.Tag(r.word); tag != r.tag || e != api.OK {
			t.Errorf("Tag(%q): %d %v", r.word, tag, e)
		}
		if word, e := shape.Word(r.tag); word != r.word || e != api.OK {
			t.Errorf("Word(%d): %q %v", r.tag, word, e)
		}
	}
	for tag := 0; tag <= 255; tag++ {
		word, e := shape.Word(api.Tag(tag))
		if e != api.OK {
			continue
		}
		if back, f := shape.Tag(word); back != api.Tag(tag) || f != api.OK {
			t.Errorf("Tag(%q): %d %v, not %d", word, back, f, tag)
		}
	}
}

// isWord tells whether it is one of the table's.
func isWord(text string) bool {
	return slices.ContainsFunc(table(), func(r row) bool { return r.word == text })
}

// noWord fails, unless a text that is no word has no tag.
func noWord(t *testing.T, text string) {
	t.Helper()
	if isWord(text) {
		return
	}
	if tag, e := shape.Tag(text); tag != 0 || e != api.ErrTag {
		t.Errorf("Tag(%q): %d %v", text, tag, e)
	}
}

// TestNoWords is P6.2: words are told apart by each byte.
func TestNoWords(t *testing.T) {
	for _, text := range []string{"", " ", "\x00", "0", "1", "tag", "graph", "actor", "filtered", "ups", "mul", "FILTER", "updown", "up down", "unweaver", "reweave", "ＵＰ", "sum\u0301", "\xff", strings.Repeat("up", 40000)} {
		noWord(t, text)
	}
	for _, r := range table() {
		w := r.word
		noWord(t, strings.ToUpper(w))
		noWord(t, w+w)
		for i := range len(w) + 1 {
			noWord(t, w[:i])
			noWord(t, w[i:])
			for b := range 256 {
				noWord(t, w[:i]+string([]byte{byte(b)})+w[i:])
				if i < len(w) {
					noWord(t, w[:i]+string([]byte{byte(b)})+w[i+1:])
				}
			}
		}
	}
}

// sum is a list's numbers added up.
func sum(xs []int) int {
	all := 0
	for _, x := range xs {
		all += x
	}
	return all
}

// side fails, unless what P6.4 says of a side's ports is so.
func side(t *testing.T, tag api.Tag, p, rates []int) {
	t.Helper()
	if len(rates) > api.MaxPorts || len(rates) > 0 && sum(rates) > api.MaxRate || len(rates) > 0 && slices.Min(rates) < 1 {
		t.Errorf("Of(%d, %v): %v", tag, p, rates)
	}
}

// TestWhatFollows is P6.4: the bounds of the ports, their rates and these added up; and unweave is weave, turned about.
func TestWhatFollows(t *testing.T) {
	met := 0
	for _, r := range table() {
		for n := -1; n <= 66; n++ {
			for m := -1; m <= 66; m++ {
				for _, p := range [][]int{nil, {n}, {n, m}} {
					ins, outs, e := shape.Of(r.tag, p...)
					if e != api.OK {
						continue
					}
					met++
					side(t, r.tag, p, ins)
					side(t, r.tag, p, outs)
					if len(ins)+len(outs) == 0 {
						t.Errorf("Of(%d, %v): no port", r.tag, p)
					}
				}
			}
		}
	}
	if met < 20000 {
		t.Errorf("%d shapes", met)
	}
	for _, n := range edges() {
		for _, m := range edges() {
			ins, outs, e := shape.Of(api.Weave, n, m)
			of(t, api.Unweave, list(n, m), outs, ins, e)
		}
	}
}

// scrawl writes over a list and the room behind it.
func scrawl(xs []int) {
	room := xs[:cap(xs)]
	for i := range room {
		room[i] = -99
	}
}

// TestNothingIsShared is R2: each list that comes out is memory of its own, and the parameters and the room behind them stay.
func TestNothingIsShared(t *testing.T) {
	for _, r := range table() {
		for _, p := range [][]int{nil, {1}, {2}, {16}, {1, 1}, {2, 3}, {3, 2}, {16, 4}, {1, 64}, many(16, 7)} {
			ins, outs, e := want(r.tag, p)
			room := append(append(make([]int, 0, 40), p...), many(40-len(p), 5)...)
			given := room[:len(p)]
			a, b, f := shape.Of(r.tag, given...)
			if f != e {
				t.Errorf("Of(%d, %v): %v", r.tag, p, f)
			}
			c, d, _ := shape.Of(r.tag, given...)
			if !slices.Equal(given, p) || !slices.Equal(room[len(p):], many(40-len(p), 5)) {
				t.Errorf("Of(%d, %v) writes: %v", r.tag, p, room)
			}
			scrawl(room)
			if !slices.Equal(a, ins) || !slices.Equal(b, outs) {
				t.Errorf("Of(%d, %v): what is written into the parameters is seen in %v, %v", r.tag, p, a, b)
			}
			scrawl(a)
			if !slices.Equal(b, outs) || !slices.Equal(c, ins) || !slices.Equal(d, outs) {
				t.Errorf("Of(%d, %v): what is written into the in-ports is seen in %v, %v, %v", r.tag, p, b, c, d)
			}
			scrawl(b)
			if !slices.Equal(c, ins) || !slices.Equal(d, outs) {
				t.Errorf("Of(%d, %v): what is written into the out-ports is seen in %v, %v", r.tag, p, c, d)
			}
			of(t, r.tag, p, ins, outs, e)
		}
	}
}
