package sketch_test

import (
	"reflect"
	"regexp"
	"slices"
	"strconv"
	"strings"
	"testing"

	"pianola/api"
	"pianola/lex"
	"pianola/sketch"
)

const (
	least    = -9223372036854775808
	greatest = 9223372036854775807
)

func place(name string, port, at int) api.Place { return api.Place{Name: name, Port: port, At: at} }

func actor(at int, name, tag string, nums ...int) api.Item {
	return api.Item{Kind: api.ActorItem, Name: name, Tag: tag, Nums: nums, At: at}
}

func edge(at int, from, to api.Place, nums ...int) api.Item {
	return api.Item{Kind: api.EdgeItem, From: from, To: to, Nums: nums, At: at}
}

func in(at int, name string, to api.Place) api.Item {
	return api.Item{Kind: api.InItem, Name: name, To: to, At: at}
}

func out(at int, from api.Place, name string) api.Item {
	return api.Item{Kind: api.OutItem, From: from, Name: name, At: at}
}

func graph(name string, items ...api.Item) api.Sketch { return api.Sketch{Name: name, Items: items} }

func sameItem(a, b api.Item) bool {
	nums := slices.Equal(a.Nums, b.Nums)
	a.Nums, b.Nums = nil, nil
	return nums && reflect.DeepEqual(a, b)
}

func same(a, b api.Sketch) bool {
	return a.Name == b.Name && slices.EqualFunc(a.Items, b.Items, sameItem)
}

// bare is a sketch without the places in its text.
func bare(s api.Sketch) api.Sketch {
	s.Items = slices.Clone(s.Items)
	for i := range s.Items {
		s.Items[i].At, s.Items[i].From.At, s.Items[i].To.At = 0, 0, 0
	}
	return s
}

func short(text string) string {
	if len(text) > 200 {
		return strconv.Quote(text[:200]) + ".. of " + strconv.Itoa(len(text)) + " bytes"
	}
	return strconv.Quote(text)
}

// reads fails, unless a text is read as this.
func reads(t *testing.T, text string, want api.Sketch) {
	t.Helper()
	if s, f := sketch.Parse(text); f != (api.Fault{}) || !same(s, want) {
		t.Errorf("Parse(%s): %v %v, not %v", short(text), s, f, want)
	}
}

// refuses fails, unless a text is refused so, and with nothing beside it.
func refuses(t *testing.T, text string, e api.Errno, at int) {
	t.Helper()
	s, f := sketch.Parse(text)
	if f != (api.Fault{Code: e, At: at}) {
		t.Errorf("Parse(%s): %v at %d, not %v at %d", short(text), f.Code, f.At, e, at)
	}
	if s.Name != "" || len(s.Items) != 0 {
		t.Errorf("Parse(%s): %v beside %v", short(text), s, f)
	}
}

// prints fails, unless a sketch is printed so.
func prints(t *testing.T, s api.Sketch, want string) {
	t.Helper()
	if text, e := sketch.Print(s); e != api.OK || text != want {
		t.Errorf("Print(%v): %s %v, not %s", s, short(text), e, short(want))
	}
}

// unprinted fails, unless a sketch is refused so, and with no text beside it.
func unprinted(t *testing.T, s api.Sketch, want api.Errno) {
	t.Helper()
	if text, e := sketch.Print(s); e != want || text != "" {
		t.Errorf("Print(%.300v): %s %v, not %v", s, short(text), e, want)
	}
}

// The oracle: the chapter's table as one pattern over a letter a token. A token may stand where it stands, if some rest of a whole text makes what is up to it a text.
var whole = regexp.MustCompile(`^g[gaeiown]\{(a[gaeiown]=[gaeiown]N*;|e[gaeiown]\.N>[gaeiown]\.N(wNN*)?;|i[gaeiown]>[gaeiown]\.N;|o[gaeiown]\.N>[gaeiown];)*\}$`)

var wholes = []string{"gn{an=nN;}", "gn{en.N>n.NwN;}", "gn{en.N>n.N;}", "gn{in>n.N;}", "gn{on.N>n;}"}

// letter is a token's, as the pattern has it; End has none.
func letter(token api.Token) string {
	switch token.Sort {
	case api.Number:
		return "N"
	case api.Word:
		switch token.Text {
		case "graph", "actor", "edge", "in", "out", "with":
			return token.Text[:1]
		}
		return "n"
	}
	return strings.TrimPrefix(token.Text, "-")
}

func maybe(begun string) bool {
	for _, w := range wholes {
		for i := range len(w) + 1 {
			if whole.MatchString(begun + w[i:]) {
				return true
			}
		}
	}
	return false
}

// expected is what Parse should answer.
func expected(text string) (api.Sketch, api.Fault) {
	tokens, f := lex.All(text)
	if f != (api.Fault{}) {
		return api.Sketch{}, f
	}
	begun := ""
	for _, token := range tokens {
		begun += letter(token)
		if token.Sort == api.End && !whole.MatchString(begun) || !maybe(begun) {
			return api.Sketch{}, api.Fault{Code: api.ErrToken, At: token.At}
		}
	}
	s := api.Sketch{Name: tokens[1].Text}
	for rest := tokens[3:]; rest[0].Text != "}"; {
		n := slices.IndexFunc(rest, func(token api.Token) bool { return token.Text == ";" })
		s.Items = append(s.Items, expectedItem(rest[:n]))
		rest = rest[n+1:]
	}
	return s, api.Fault{}
}

// expectedItem is an item by where its tokens stand.
func expectedItem(ts []api.Token) api.Item {
	where := func(i int) api.Place { return place(ts[i].Text, ts[i+2].Num, ts[i].At) }
	nums := func(from int) []int {
		var ns []int
		for _, token := range ts[min(from, len(ts)):] {
			ns = append(ns, token.Num)
		}
		return ns
	}
	switch ts[0].Text {
	case "actor":
		return actor(ts[0].At, ts[1].Text, ts[3].Text, nums(4)...)
	case "edge":
		return edge(ts[0].At, where(1), where(5), nums(9)...)
	case "in":
		return in(ts[0].At, ts[1].Text, where(3))
	}
	return out(ts[0].At, where(1), ts[5].Text)
}

// holds fails, unless Parse answers what the oracle does.
func holds(t *testing.T, text string) {
	t.Helper()
	s, f := sketch.Parse(text)
	if want, wantFault := expected(text); !same(s, want) || f != wantFault {
		t.Errorf("Parse(%s): %v %v, not %v %v", short(text), s, f, want, wantFault)
	}
}

// chance is a row of numbers that is always the same.
type chance uint64

func (c *chance) next(n int) int {
	*c = *c*6364136223846793005 + 1442695040888963407
	return int((*c >> 33) % chance(n))
}

func pick[T any](c *chance, list ...T) T { return list[c.next(len(list))] }

func (c *chance) name() string {
	return pick(c, "graph", "actor", "edge", "in", "out", "with", "a", "b_1", "x", "abcdefghijklmnop", "up")
}

func (c *chance) number() int {
	return pick(c, 0, 1, -1, 2, 10, -64, c.next(1000), least, greatest)
}

func (c *chance) numbers() []int {
	var ns []int
	for range c.next(4) {
		ns = append(ns, c.number())
	}
	return ns
}

func (c *chance) place() api.Place { return place(c.name(), c.number(), c.next(3)) }

func (c *chance) item() api.Item {
	at := c.next(3)
	switch c.next(4) {
	case 0:
		return actor(at, c.name(), c.name(), c.numbers()...)
	case 1:
		return edge(at, c.place(), c.place(), c.numbers()...)
	case 2:
		return in(at, c.name(), c.place())
	}
	return out(at, c.place(), c.name())
}

func (c *chance) sketch() api.Sketch {
	s := api.Sketch{Name: c.name()}
	for range c.next(5) {
		s.Items = append(s.Items, c.item())
	}
	return s
}

// written are a text's tokens as texts.
func written(t *testing.T, text string) []string {
	tokens, f := lex.All(text)
	if f != (api.Fault{}) {
		t.Fatalf("%s: %v", short(text), f)
	}
	var all []string
	for _, token := range tokens[:len(tokens)-1] {
		if token.Sort == api.Number {
			all = append(all, strconv.Itoa(token.Num))
		} else {
			all = append(all, token.Text)
		}
	}
	return all
}

// spaced writes tokens with blanks and remarks between them, ahead of them and behind them.
func (c *chance) spaced(tokens []string) string {
	var text strings.Builder
	gap := func() {
		for range c.next(4) {
			text.WriteString(pick(c, " ", "\t", "\r\n", "\n\n", "#\n", "# graph 007 } - A\x00\xff\n"))
		}
	}
	gap()
	for _, token := range tokens {
		text.WriteString(token)
		text.WriteString(pick(c, " ", "\n", "\t", "\r", "# ;\n"))
		gap()
	}
	text.WriteString(pick(c, "", "#", "# }"))
	return text.String()
}

// TestExamples is P5.1 and P5.2: the chapter's examples.
func TestExamples(t *testing.T) {
	text := "graph g { actor a = up 2; in x -> a.0; out a.0 -> y; }"
	s := graph("g", actor(10, "a", "up", 2), in(26, "x", place("a", 0, 34)), out(39, place("a", 0, 43), "y"))
	reads(t, text, s)
	prints(t, s, "graph g {\n  actor a = up 2;\n  in x -> a.0;\n  out a.0 -> y;\n}\n")

	refuses(t, "", api.ErrToken, 0)
	reads(t, "graph g {}", graph("g"))
	refuses(t, "graph g {} x", api.ErrToken, 11)
	refuses(t, "graph g {", api.ErrToken, 9)
	refuses(t, "graph { }", api.ErrToken, 6)
	reads(t, "graph graph { edge edge.-1 -> with.2 with 0; }", graph("graph", edge(14, place("edge", -1, 19), place("with", 2, 30), 0)))
	refuses(t, "graph g { edge a.0 -> b.0 with; }", api.ErrToken, 30)
	refuses(t, "graph g { edge a.0 -> b.0 1; }", api.ErrToken, 26)
	refuses(t, "graph g { actor a = ; }", api.ErrToken, 20)
	refuses(t, "graph g { actor 1 = up; }", api.ErrToken, 16)
	refuses(t, "graph g { node a; }", api.ErrToken, 10)
	refuses(t, "graph g { actor a = up 2 -3", api.ErrToken, 27)
	refuses(t, "graph ; 007", api.ErrNumber, 8)

	a := place("a", 0, 0)
	unprinted(t, graph("G"), api.ErrArg)
	unprinted(t, graph("g", api.Item{Kind: 0, Name: "a", Tag: "up"}), api.ErrArg)
	unprinted(t, graph("g", api.Item{Kind: 5, Name: "a", Tag: "up"}), api.ErrArg)
	unprinted(t, graph("g", api.Item{Kind: api.OutItem, Name: "y", From: a, Tag: "t"}), api.ErrArg)
	unprinted(t, graph("g", api.Item{Kind: api.InItem, Name: "x", To: a, From: api.Place{Port: 1}}), api.ErrArg)
	prints(t, graph("g", api.Item{Kind: api.InItem, Name: "x", To: a, From: api.Place{At: 1}}), "graph g {\n  in x -> a.0;\n}\n")
	prints(t, graph("g", edge(0, a, place("b", 1, 0), 1, -2)), "graph g {\n  edge a.0 -> b.1 with 1 -2;\n}\n")
}

// TestItems is P5.1: every kind of item, with and without what it may have, the places, and what is zero.
func TestItems(t *testing.T) {
	item := func(text string, want api.Item) {
		t.Helper()
		reads(t, "graph g{"+text+"}", graph("g", want))
	}
	item("actor a=up;", actor(8, "a", "up"))
	item(" actor a = filter 1 -2 0;", actor(9, "a", "filter", 1, -2, 0))
	item("actor a=up-1-2;", actor(8, "a", "up", -1, -2))
	item("actor a = up 9223372036854775807 -9223372036854775808;", actor(8, "a", "up", greatest, least))
	item("edge a.0->b.1;", edge(8, place("a", 0, 13), place("b", 1, 18)))
	item("edge  a . 0 -> b . -9223372036854775808 ;", edge(8, place("a", 0, 14), place("b", least, 23)))
	item("edge a.0->a.0 with 7;", edge(8, place("a", 0, 13), place("a", 0, 18), 7))
	item("edge a.0->b.0 with -7 0 9223372036854775807;", edge(8, place("a", 0, 13), place("b", 0, 18), -7, 0, greatest))
	item("in x->a.3;", in(8, "x", place("a", 3, 14)))
	item("in x -> a.-3;", in(8, "x", place("a", -3, 16)))
	item("out a.3->y;", out(8, place("a", 3, 12), "y"))
	item("#\n\tout a.-3 -> y;", out(11, place("a", -3, 15), "y"))

	reads(t, "\n graph\tg_1 # g\n{ # {\n}\r\n# }", graph("g_1"))
	reads(t, "graph g{out a.0->y;actor a=up 2;actor a=up 2;}", graph("g",
		out(8, place("a", 0, 12), "y"), actor(19, "a", "up", 2), actor(32, "a", "up", 2)))
}

// TestTableWords is P5.1: the words of the table are names where it has NAME or TAG.
func TestTableWords(t *testing.T) {
	for _, w := range []string{"graph", "actor", "edge", "in", "out", "with"} {
		n := len(w)
		reads(t, "graph "+w+"{}", graph(w))
		reads(t, "graph g{actor "+w+"="+w+";}", graph("g", actor(8, w, w)))
		reads(t, "graph g{actor "+w+"="+w+" 1;}", graph("g", actor(8, w, w, 1)))
		reads(t, "graph g{edge "+w+".0->"+w+".1;}", graph("g", edge(8, place(w, 0, 13), place(w, 1, 17+n))))
		reads(t, "graph g{edge "+w+".0->"+w+".1 with 2;}", graph("g", edge(8, place(w, 0, 13), place(w, 1, 17+n), 2)))
		reads(t, "graph g{in "+w+"->"+w+".0;}", graph("g", in(8, w, place(w, 0, 13+n))))
		reads(t, "graph g{out "+w+".0->"+w+";}", graph("g", out(8, place(w, 0, 12), w)))
	}
	for _, w := range []string{"grap", "graphs", "actors", "edges", "ins", "outs", "withs", "node"} {
		refuses(t, w+" g {}", api.ErrToken, 0)
		refuses(t, "graph g{"+w+" a = up;}", api.ErrToken, 8)
		refuses(t, "graph g{edge a.0->b.1 "+w+" 2;}", api.ErrToken, 22)
	}
}

// TestEveryPlace is P5.1: at each place of texts that have all of the table, each token, and the end.
func TestEveryPlace(t *testing.T) {
	tokens := []string{"graph", "actor", "edge", "in", "out", "with", "a", "0", "-5", "{", "}", "=", ";", ".", "->"}
	for _, text := range []string{
		"graph g { }",
		"graph g { actor a = up ; actor a = up 1 -2 ; }",
		"graph g { edge a . 0 -> b . 1 ; edge a . 0 -> b . 1 with 1 2 ; }",
		"graph g { in x -> a . 0 ; out a . 0 -> y ; in x -> a . 0 ; }",
		"graph in { edge in . 1 -> with . 1 with 3 ; actor with = with 0 ; }",
	} {
		holds(t, text)
		right := strings.Fields(text)
		for i := range right {
			ahead := strings.Join(right[:i], " ")
			holds(t, ahead)
			holds(t, ahead+" # end")
			holds(t, ahead+" "+strings.Join(right[i+1:], " "))
			for _, token := range tokens {
				holds(t, ahead+" "+token)
				holds(t, ahead+" "+token+" "+strings.Join(right[i:], " "))
				holds(t, ahead+" "+token+" "+strings.Join(right[i+1:], " "))
			}
		}
		for _, token := range tokens {
			refuses(t, text+"  "+token, api.ErrToken, len(text)+2)
		}
	}
}

// TestEnd is P5.1: a text that ends too soon is refused at its end, behind blanks and remarks.
func TestEnd(t *testing.T) {
	text := "graph g{actor a=up 1;edge a.0->a.0 with 1;in x->a.0;out a.0->y;}"
	tokens := written(t, text)
	for i := range tokens {
		begun := strings.Join(tokens[:i], " ")
		refuses(t, begun, api.ErrToken, len(begun))
		refuses(t, begun+" \t# }\n ", api.ErrToken, len(begun)+7)
	}
}

// TestLexFirst is P5.1: an error of lex.All comes ahead of one of the grammar, wherever it stands.
func TestLexFirst(t *testing.T) {
	refuses(t, "graph g { } } 007", api.ErrNumber, 14)
	refuses(t, "graph 007 } }", api.ErrNumber, 6)
	refuses(t, "graph g { } A", api.ErrByte, 12)
	refuses(t, "; graph g { } -", api.ErrByte, 14)
	refuses(t, "; abcdefghijklmnopq", api.ErrWord, 2)
	refuses(t, "graph abcdefghijklmnopq { }", api.ErrWord, 6)
	refuses(t, "graph g { actor a = up 9223372036854775808; }", api.ErrNumber, 23)
	refuses(t, "; A 007", api.ErrByte, 2)

	text := "graph g {}"
	reads(t, text+strings.Repeat(" ", api.MaxText-len(text)), graph("g"))
	refuses(t, text+strings.Repeat(" ", api.MaxText-len(text)+1), api.ErrLong, api.MaxText)
	refuses(t, ";"+strings.Repeat(" ", api.MaxText), api.ErrLong, api.MaxText)
	refuses(t, strings.Repeat(";", api.MaxText), api.ErrToken, 0)
	refuses(t, strings.Repeat(" ", api.MaxText), api.ErrToken, api.MaxText)
}

// TestMixed is P5.1: texts of pieces, right and wrong ones, held against the oracle.
func TestMixed(t *testing.T) {
	c := chance(20261116)
	tokens := []string{"graph", "actor", "edge", "in", "out", "with", "a", "0", "-5", "{", "}", "=", ";", ".", "->"}
	read := 0
	for range 4000 {
		text, e := sketch.Print(c.sketch())
		if e != api.OK {
			t.Fatal(e)
		}
		list := written(t, text)
		for range c.next(3) {
			i := c.next(len(list))
			switch c.next(4) {
			case 0:
				list = slices.Delete(list, i, i+1)
			case 1:
				list = slices.Insert(list, i, pick(&c, tokens...))
			case 2:
				list[i] = pick(&c, tokens...)
			case 3:
				list = slices.Insert(list, i, pick(&c, "007", "A", "-", "abcdefghijklmnopq"))
			}
		}
		mixed := c.spaced(list)
		holds(t, mixed)
		if _, f := sketch.Parse(mixed); f == (api.Fault{}) {
			read++
		}
	}
	if read < 1000 || read > 3000 {
		t.Errorf("%d of 4000 texts are read", read)
	}
}

// TestPrint is P5.2: the one form of every kind of item.
func TestPrint(t *testing.T) {
	a, b := place("a", 0, 7), place("b_1", -12, 8)
	line := func(item api.Item, want string) {
		t.Helper()
		prints(t, graph("g", item), "graph g {\n  "+want+"\n}\n")
	}
	prints(t, graph("g"), "graph g {\n}\n")
	prints(t, graph("abcdefghijklmnop"), "graph abcdefghijklmnop {\n}\n")
	prints(t, api.Sketch{Name: "graph", Items: []api.Item{}}, "graph graph {\n}\n")
	line(actor(3, "a", "up"), "actor a = up;")
	line(actor(-3, "actor", "actor", 1), "actor actor = actor 1;")
	line(actor(0, "a", "no_such_tag", least, 0, greatest), "actor a = no_such_tag -9223372036854775808 0 9223372036854775807;")
	line(edge(0, a, b), "edge a.0 -> b_1.-12;")
	line(edge(0, b, a, -1), "edge b_1.-12 -> a.0 with -1;")
	line(edge(0, place("with", greatest, 0), place("edge", least, 0), 5, 6, 7), "edge with.9223372036854775807 -> edge.-9223372036854775808 with 5 6 7;")
	line(in(0, "in", a), "in in -> a.0;")
	line(out(0, b, "out"), "out b_1.-12 -> out;")
	prints(t, graph("g", in(0, "x", a), in(0, "x", a), out(0, a, "y"), edge(0, a, a), actor(0, "a", "up", 2)),
		"graph g {\n  in x -> a.0;\n  in x -> a.0;\n  out a.0 -> y;\n  edge a.0 -> a.0;\n  actor a = up 2;\n}\n")
}

// TestAtDoesNotCount is P5.2: the places of items, and of places that an item does not have, too.
func TestAtDoesNotCount(t *testing.T) {
	for _, at := range []int{1, -1, least, greatest} {
		nothing, a := api.Place{At: at}, place("a", 1, at)
		prints(t, graph("g", api.Item{Kind: api.ActorItem, Name: "a", Tag: "up", From: nothing, To: nothing, At: at}), "graph g {\n  actor a = up;\n}\n")
		prints(t, graph("g", api.Item{Kind: api.EdgeItem, From: a, To: a, Nums: []int{}, At: at}), "graph g {\n  edge a.1 -> a.1;\n}\n")
		prints(t, graph("g", api.Item{Kind: api.InItem, Name: "x", From: nothing, To: a, Nums: []int{}, At: at}), "graph g {\n  in x -> a.1;\n}\n")
		prints(t, graph("g", api.Item{Kind: api.OutItem, Name: "y", From: a, To: nothing, Nums: []int{}, At: at}), "graph g {\n  out a.1 -> y;\n}\n")
	}
}

// TestNamesThatAreNone is P5.2: ErrArg for each name of each kind, and for the sketch's.
func TestNamesThatAreNone(t *testing.T) {
	for _, w := range []string{"", "A", "1", "_a", "a b", "a-b", " a", "a\n", "abcdefghijklmnopq", "é", "a.0"} {
		a, bad := place("a", 0, 0), place(w, 0, 0)
		unprinted(t, graph(w), api.ErrArg)
		unprinted(t, graph(w, actor(0, "a", "up")), api.ErrArg)
		for _, item := range []api.Item{
			actor(0, w, "up"), actor(0, "a", w), actor(0, w, w, 1),
			edge(0, bad, a), edge(0, a, bad), edge(0, a, bad, 1), edge(0, place(w, 1, 0), a), edge(0, a, place(w, 1, 0)),
			in(0, w, a), in(0, "x", bad), in(0, "x", place(w, 1, 0)),
			out(0, bad, "y"), out(0, a, w), out(0, place(w, 1, 0), "y"),
		} {
			unprinted(t, graph("g", item), api.ErrArg)
			unprinted(t, graph("g", actor(0, "a", "up"), item, actor(0, "a", "up")), api.ErrArg)
			unprinted(t, graph("g", actor(0, "a", "up"), item), api.ErrArg)
		}
	}
}

// TestWhatAKindDoesNotHave is P5.2: ErrArg for each thing that is there and should not be.
func TestWhatAKindDoesNotHave(t *testing.T) {
	a := place("a", 0, 0)
	name := func(item *api.Item) { item.Name = "n" }
	tag := func(item *api.Item) { item.Tag = "t" }
	one := func(item *api.Item) { item.Nums = []int{0} }
	fromName := func(item *api.Item) { item.From = a }
	fromPort := func(item *api.Item) { item.From = api.Place{Port: 1} }
	fromBelow := func(item *api.Item) { item.From = api.Place{Port: -1} }
	toName := func(item *api.Item) { item.To = a }
	toPort := func(item *api.Item) { item.To = api.Place{Port: 1} }
	toBelow := func(item *api.Item) { item.To = api.Place{Port: -1} }
	for _, x := range []struct {
		item   api.Item
		spoils []func(*api.Item)
	}{
		{actor(0, "a", "up"), []func(*api.Item){fromName, fromPort, fromBelow, toName, toPort, toBelow}},
		{edge(0, a, a), []func(*api.Item){name, tag}},
		{edge(0, a, a, 1), []func(*api.Item){name, tag}},
		{in(0, "x", a), []func(*api.Item){tag, one, fromName, fromPort, fromBelow}},
		{out(0, a, "y"), []func(*api.Item){tag, one, toName, toPort, toBelow}},
	} {
		if _, e := sketch.Print(graph("g", x.item)); e != api.OK {
			t.Error(x.item, e)
		}
		for _, spoil := range x.spoils {
			item := x.item
			spoil(&item)
			unprinted(t, graph("g", item), api.ErrArg)
			unprinted(t, graph("g", x.item, item, x.item), api.ErrArg)
		}
	}
	for kind := range 256 {
		for _, item := range []api.Item{{}, actor(0, "a", "up"), edge(0, a, a), in(0, "x", a), out(0, a, "y")} {
			own := item.Kind
			if item.Kind = api.ItemKind(kind); item.Kind != own || own == 0 {
				unprinted(t, graph("g", item), api.ErrArg)
			}
		}
	}
}

// TestLong is P5.2: a one form of MaxText bytes is printed, one of a byte more is not; ErrArg comes ahead of ErrLong.
func TestLong(t *testing.T) {
	room := func(used int) int { return api.MaxText - len("graph g {\n}\n") - used }
	line := len("  in x -> a.0;\n")
	items := slices.Repeat([]api.Item{in(0, "x", place("a", 0, 0))}, room(0)/line-1)
	rest := room(line * len(items))
	if rest < line || rest >= 2*line {
		t.Fatal(rest)
	}
	last := in(0, strings.Repeat("x", rest-line+1), place("a", 0, 0))
	text, e := sketch.Print(graph("g", append(slices.Clone(items), last)...))
	if e != api.OK || len(text) != api.MaxText || !strings.HasSuffix(text, "in "+last.Name+" -> a.0;\n}\n") {
		t.Errorf("%d bytes: %v", len(text), e)
	}
	if s, f := sketch.Parse(text); f != (api.Fault{}) || len(s.Items) != len(items)+1 {
		t.Error(len(s.Items), f)
	}
	last.Name += "x"
	unprinted(t, graph("g", append(slices.Clone(items), last)...), api.ErrLong)
	unprinted(t, graph("gg", append(slices.Clone(items), last)...), api.ErrLong)

	more := append(slices.Clone(items), items...)
	unprinted(t, graph("g", more...), api.ErrLong)
	unprinted(t, graph("G", more...), api.ErrArg)
	unprinted(t, graph("g", append(more, api.Item{})...), api.ErrArg)
}

// TestLongNumbers is P5.2: the same, of one item with many numbers.
func TestLongNumbers(t *testing.T) {
	for _, item := range []api.Item{actor(0, "a", "up"), edge(0, place("a", 0, 0), place("b", 0, 0), 0)} {
		short, _ := sketch.Print(graph("g", item))
		spare := api.MaxText - len(short)
		item.Nums = append(item.Nums, make([]int, spare/2)...)
		if spare%2 == 1 {
			item.Nums[0] = 10
		}
		text, e := sketch.Print(graph("g", item))
		if e != api.OK || len(text) != api.MaxText || strings.Count(text, " 0") < spare/2-1 {
			t.Errorf("%d bytes: %v", len(text), e)
		}
		if s, f := sketch.Parse(text); f != (api.Fault{}) || !same(bare(s), graph("g", item)) {
			t.Error(f)
		}
		item.Nums[len(item.Nums)-1] = 10
		unprinted(t, graph("g", item), api.ErrLong)
		item.Nums = slices.Repeat([]int{least}, 1<<20)
		unprinted(t, graph("g", item), api.ErrLong)
		item.Kind = 0
		unprinted(t, graph("g", item), api.ErrArg)
	}
}

// TestThereAndBack is P5.3: what is printed is read as the same, but for At, and printed the same again; blanks and remarks change nothing but At.
func TestThereAndBack(t *testing.T) {
	c := chance(5)
	for range 4000 {
		s := c.sketch()
		text, e := sketch.Print(s)
		if e != api.OK {
			t.Fatal(s, e)
		}
		back, f := sketch.Parse(text)
		if f != (api.Fault{}) || !same(bare(back), bare(s)) {
			t.Errorf("%s: %v %v, not %v", short(text), back, f, s)
		}
		for _, item := range back.Items {
			if line := text[item.At-2:]; !strings.HasPrefix(line, "  ") || item.At == 0 {
				t.Errorf("%s: %v", short(text), item)
			}
		}
		prints(t, back, text)
		spaced := c.spaced(written(t, text))
		far, f := sketch.Parse(spaced)
		if f != (api.Fault{}) || !same(bare(far), bare(s)) {
			t.Errorf("%s: %v %v, not %v", short(spaced), far, f, s)
		}
		prints(t, far, text)
	}
}

// TestReadButTooLong is P5.3: what is read may have a one form that is too long.
func TestReadButTooLong(t *testing.T) {
	text := "graph g{" + strings.Repeat("in x->a.0;", 100000) + "}"
	s, f := sketch.Parse(text)
	if f != (api.Fault{}) || len(s.Items) != 100000 {
		t.Fatal(len(s.Items), f)
	}
	unprinted(t, s, api.ErrLong)
}

// TestAroundAWrongToken is P5.3: what stands ahead of it is read, or refused at its end; whatever stands behind it, it is refused there, or by lex.All.
func TestAroundAWrongToken(t *testing.T) {
	c := chance(7)
	met := 0
	for range 3000 {
		text, _ := sketch.Print(c.sketch())
		list := written(t, text)
		list = slices.Insert(list, c.next(len(list)+1), pick(&c, "}", "{", ";", "x", "0", "actor", "->"))
		text = c.spaced(list)
		_, f := sketch.Parse(text)
		if f.Code != api.ErrToken {
			continue
		}
		met++
		if s, ahead := sketch.Parse(text[:f.At]); ahead != (api.Fault{}) && ahead != f || ahead != (api.Fault{}) && s.Name != "" {
			t.Errorf("%s: %v, ahead of it %v", short(text), f, ahead)
		}
		if f.At == len(text) {
			continue
		}
		token := text[f.At:]
		token = token[:strings.IndexAny(token, " \t\r\n#")]
		for _, behind := range []string{"", " ", " ;", "\n}", " x -> a.0; }", "#", " { } graph g { }"} {
			refuses(t, text[:f.At]+token+behind, api.ErrToken, f.At)
		}
		refuses(t, text[:f.At]+token+" 007", api.ErrNumber, f.At+len(token)+1)
	}
	if met < 1000 {
		t.Errorf("%d wrong tokens", met)
	}
}

// TestNothingIsShared is R2: what comes out is new, and what comes in is not written into, nor its spare room.
func TestNothingIsShared(t *testing.T) {
	text := "graph g { actor a = up 1 2 3; actor b = up 4 5; edge a.0 -> b.0 with 6 7 8; edge b.0 -> a.0 with 9; }"
	want, _ := sketch.Parse(text)
	spoiled, _ := sketch.Parse(text)
	for i := range spoiled.Items {
		item := &spoiled.Items[i]
		room := item.Nums[:cap(item.Nums)]
		for j := range room {
			room[j] = -99
		}
		for k, other := range spoiled.Items {
			if k > i && !slices.Equal(other.Nums, want.Items[k].Nums) {
				t.Errorf("items %d and %d share their numbers", i, k)
			}
		}
	}
	again, _ := sketch.Parse(text)
	if !same(want, again) {
		t.Error(again)
	}

	nums := make([]int, 2, 8)
	items := make([]api.Item, 1, 4)
	items[0] = actor(1, "a", "up", nums...)
	items[0].Nums = nums
	prints(t, graph("g", items...), "graph g {\n  actor a = up 0 0;\n}\n")
	if !slices.Equal(nums[:8], make([]int, 8)) || !reflect.DeepEqual(items[1:4], make([]api.Item, 3)) || items[0].At != 1 {
		t.Error(nums[:8], items[:4])
	}
}
