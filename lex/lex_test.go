package lex_test

import (
	"math/big"
	"regexp"
	"slices"
	"strconv"
	"strings"
	"testing"

	"pianola/api"
	"pianola/lex"
)

const (
	least    = -9223372036854775808
	greatest = 9223372036854775807
)

func word(s string, at int) api.Token { return api.Token{Sort: api.Word, Text: s, At: at} }

func mark(s string, at int) api.Token { return api.Token{Sort: api.Mark, Text: s, At: at} }

func number(n, at int) api.Token { return api.Token{Sort: api.Number, Num: n, At: at} }

func end(at int) api.Token { return api.Token{Sort: api.End, At: at} }

func fault(e api.Errno, at int) api.Fault { return api.Fault{Code: e, At: at} }

// reads fails, unless a text is read as these tokens.
func reads(t *testing.T, text string, want ...api.Token) {
	t.Helper()
	if tokens, f := lex.All(text); !slices.Equal(tokens, want) || f != (api.Fault{}) {
		t.Errorf("All(%s): %v %v, not %v", short(text), tokens, f, want)
	}
}

// refuses fails, unless a text is refused so, and with no token.
func refuses(t *testing.T, text string, e api.Errno, at int) {
	t.Helper()
	if tokens, f := lex.All(text); len(tokens) != 0 || f != fault(e, at) {
		t.Errorf("All(%s): %d tokens, %v at %d, not %v at %d", short(text), len(tokens), f.Code, f.At, e, at)
	}
}

func short(text string) string {
	if len(text) > 60 {
		return strconv.Quote(text[:60]) + ".. of " + strconv.Itoa(len(text)) + " bytes"
	}
	return strconv.Quote(text)
}

// The oracle: the chapter's table as patterns, and its errors in words of its own.
var (
	nothing = regexp.MustCompile(`^(?:[ \t\r\n]|#[^\n]*)+`)
	words   = regexp.MustCompile(`^[a-z][a-z0-9_]*`)
	numbers = regexp.MustCompile(`^-?[0-9]+`)
	marks   = regexp.MustCompile(`^(?:[{}=;.]|->)`)
	oneForm = regexp.MustCompile(`^(?:0|-?[1-9][0-9]*)$`)
)

// expected is what All should answer to a text that isn't too long. Bytes above 7F are put as A, since patterns see runes; both begin no token, and in a remark neither counts.
func expected(text string) ([]api.Token, api.Fault) {
	plain := []byte(text)
	for i, b := range plain {
		if b > 0x7F {
			plain[i] = 'A'
		}
	}
	var tokens []api.Token
	for at := 0; ; {
		rest := string(plain[at:])
		if skipped := nothing.FindString(rest); skipped != "" {
			at += len(skipped)
			continue
		}
		if rest == "" {
			return append(tokens, end(at)), api.Fault{}
		}
		found, e := first(rest)
		if e != api.OK {
			return nil, fault(e, at)
		}
		length := len(found.Text)
		if found.Sort == api.Number {
			length = len(numbers.FindString(rest))
		}
		found.At = at
		tokens = append(tokens, found)
		at += length
	}
}

func first(rest string) (api.Token, api.Errno) {
	if s := words.FindString(rest); s != "" {
		if len(s) > 16 {
			return api.Token{}, api.ErrWord
		}
		return word(s, 0), api.OK
	}
	if s := numbers.FindString(rest); s != "" {
		n, _ := new(big.Int).SetString(s, 10)
		if !oneForm.MatchString(s) || !n.IsInt64() {
			return api.Token{}, api.ErrNumber
		}
		return number(int(n.Int64()), 0), api.OK
	}
	if s := marks.FindString(rest); s != "" {
		return mark(s, 0), api.OK
	}
	return api.Token{}, api.ErrByte
}

func holds(t *testing.T, text string) {
	t.Helper()
	tokens, f := lex.All(text)
	want, wantFault := expected(text)
	if !slices.Equal(tokens, want) || f != wantFault {
		t.Errorf("All(%s): %v %v, not %v %v", short(text), tokens, f, want, wantFault)
	}
}

// mixed are texts of many pieces, always the same ones: those of the table, those at its edges, and faults.
func mixed(n int, faulty bool) []string {
	seed := uint64(20261116)
	next := func(n int) int {
		seed = seed*6364136223846793005 + 1442695040888963407
		return int((seed >> 33) % uint64(n))
	}
	pieces := []string{
		" ", " ", "\n", "\t", "\r", "\r\n", "# a - A\n", "#\n", "{", "}", "=", ";", ".", "->", "->", " 0 ", " 10 ", "-1", "5", " -7",
		" 9223372036854775807 ", "-9223372036854775808 ", "graph ", "edge ", "a", "b_1", "z9", "with ", " abcdefghijklmnop ", " x_______________ ",
	}
	if faulty {
		pieces = append(pieces, "-", ">", "_", "A", "0", "00", "-0", "\x80", "\x00", "é", "#", "abcdefghijklmnop", "9223372036854775808", "@", "--")
	}
	var texts []string
	for range n {
		var text strings.Builder
		for range next(24) {
			text.WriteString(pieces[next(len(pieces))])
		}
		texts = append(texts, text.String())
	}
	return texts
}

// TestExamples is P4.1: the chapter's table.
func TestExamples(t *testing.T) {
	reads(t, "", end(0))
	reads(t, "edge a.0 -> b1.2;", word("edge", 0), word("a", 5), mark(".", 6), number(0, 7), mark("->", 9), word("b1", 12), mark(".", 14), number(2, 15), mark(";", 16), end(17))
	reads(t, "-5-7 # 8\n9", number(-5, 0), number(-7, 2), number(9, 9), end(10))
	reads(t, "-9223372036854775808", number(least, 0), end(20))
	reads(t, "abcdefghijklmnop", word("abcdefghijklmnop", 0), end(16))
	refuses(t, "0 10 -0", api.ErrNumber, 5)
	refuses(t, "007", api.ErrNumber, 0)
	refuses(t, "9223372036854775808", api.ErrNumber, 0)
	refuses(t, "a - b", api.ErrByte, 2)
	refuses(t, "a -", api.ErrByte, 2)
	refuses(t, "--5", api.ErrByte, 0)
	refuses(t, "A", api.ErrByte, 0)
	refuses(t, "_a", api.ErrByte, 0)
	refuses(t, "a>b", api.ErrByte, 1)
	refuses(t, "x abcdefghijklmnopq", api.ErrWord, 2)
}

// TestErrorsHaveTheirNumbers is P4.1: the chapter's list of errors.
func TestErrorsHaveTheirNumbers(t *testing.T) {
	refuses(t, strings.Repeat(" ", 1048577), 2, 1048576)
	refuses(t, "?", 40, 0)
	refuses(t, "00", 41, 0)
	refuses(t, "abcdefghijklmnopq", 42, 0)
}

// TestNothingBetweenTokens is P4.1: each token is as long as it can be, and where it ends the next one may begin.
func TestNothingBetweenTokens(t *testing.T) {
	reads(t, "up2", word("up2", 0), end(3))
	reads(t, "2up", number(2, 0), word("up", 1), end(3))
	reads(t, "1-2", number(1, 0), number(-2, 1), end(3))
	reads(t, "a.0->b.1", word("a", 0), mark(".", 1), number(0, 2), mark("->", 3), word("b", 5), mark(".", 6), number(1, 7), end(8))
	reads(t, "a-1", word("a", 0), number(-1, 1), end(3))
	reads(t, "a->b", word("a", 0), mark("->", 1), word("b", 3), end(4))
	reads(t, "->->", mark("->", 0), mark("->", 2), end(4))
	reads(t, "->-1", mark("->", 0), number(-1, 2), end(4))
	reads(t, "-1->", number(-1, 0), mark("->", 2), end(4))
	reads(t, "{}=;.", mark("{", 0), mark("}", 1), mark("=", 2), mark(";", 3), mark(".", 4), end(5))
	reads(t, "..0.-1", mark(".", 0), mark(".", 1), number(0, 2), mark(".", 3), number(-1, 4), end(6))
	reads(t, "0a0", number(0, 0), word("a0", 1), end(3))
	reads(t, "a_b9__", word("a_b9__", 0), end(6))
	reads(t, "a#b\nc", word("a", 0), word("c", 4), end(5))
	reads(t, "1#2\n3", number(1, 0), number(3, 4), end(5))
	reads(t, "abcdefghijklmnop.qrstuvwxyz012345", word("abcdefghijklmnop", 0), mark(".", 16), word("qrstuvwxyz012345", 17), end(33))
	refuses(t, "1_2", api.ErrByte, 1)
	refuses(t, "aB", api.ErrByte, 1)
	reads(t, "0->1->", number(0, 0), mark("->", 1), number(1, 3), mark("->", 4), end(6))
}

// TestBlanksAndRemarks is P4.1: four bytes are blanks, a remark ends ahead of a byte 0A or with the text, and both give nothing.
func TestBlanksAndRemarks(t *testing.T) {
	reads(t, " \t\r\n", end(4))
	reads(t, "a\tb\rc\nd e", word("a", 0), word("b", 2), word("c", 4), word("d", 6), word("e", 8), end(9))
	reads(t, "\r\n a \r\n", word("a", 3), end(7))
	reads(t, "#", end(1))
	reads(t, "#\n", end(2))
	reads(t, " # a", end(4))
	reads(t, "# a\r007\n1", number(1, 8), end(9))
	reads(t, "##\n#\n#a\n# #b", end(12))
	reads(t, "1 # 2\n# 3\n\n #4\n5#6", number(1, 0), number(5, 15), end(18))
	reads(t, "a # A - 00 abcdefghijklmnopq \x00\x80\xff\xc3", word("a", 0), end(33))
	refuses(t, "# a\n A", api.ErrByte, 5)
	refuses(t, "# a\r\n\n#\n-", api.ErrByte, 8)
	for _, b := range []byte{0x00, 0x08, 0x0B, 0x0C, 0x0E, 0x1F, 0x7F, 0x85, 0xA0} {
		refuses(t, "a "+string([]byte{b}), api.ErrByte, 2)
	}
}

// TestWordsAtTheirLimit is P4.1: a word of 16 bytes is read, one of 17 is told where it begins, however long it is.
func TestWordsAtTheirLimit(t *testing.T) {
	for _, s := range []string{"a", "z", "a0_z9", "abcdefghijklmnop", "z000000000000000", "z_______________", "graph", "actor", "edge", "in", "out", "with"} {
		reads(t, s, word(s, 0), end(len(s)))
		reads(t, "\n"+s+";", word(s, 1), mark(";", len(s)+1), end(len(s)+2))
	}
	for _, s := range []string{"abcdefghijklmnopq", "abcdefghijklmnop0", "abcdefghijklmnop_", strings.Repeat("a", 1000), strings.Repeat("a", 1048576-4)} {
		refuses(t, s, api.ErrWord, 0)
		refuses(t, "1 ; "+s, api.ErrWord, 4)
	}
	refuses(t, "abcdefghijklmnopQ", api.ErrByte, 16)
}

// TestNumbersAtTheirLimits is P4.1: what fits and is in the one form is read, all else is told where it begins, a - included.
func TestNumbersAtTheirLimits(t *testing.T) {
	for _, n := range []int{0, 1, -1, 9, 10, -10, 99, 100, 4294967296, -4294967296, 999999999999999999, 1000000000000000000, -1000000000000000000, greatest - 1, greatest, least + 1, least} {
		s := strconv.Itoa(n)
		reads(t, s, number(n, 0), end(len(s)))
		reads(t, " "+s+"a", number(n, 1), word("a", 1+len(s)), end(2+len(s)))
	}
	for _, s := range []string{
		"00", "01", "007", "000", "-0", "-00", "-01", "-007", "0000000000000000000000001", "-09223372036854775808",
		"9223372036854775808", "-9223372036854775809", "9223372036854775810", "10000000000000000000", "-10000000000000000000",
		"18446744073709551615", "18446744073709551616", "18446744073709551617", "-18446744073709551616", "36893488147419103233",
		strings.Repeat("9", 1000), "-" + strings.Repeat("9", 1000), strings.Repeat("0", 1000), strings.Repeat("1", 1048576-2),
	} {
		refuses(t, s, api.ErrNumber, 0)
		refuses(t, "a "+s, api.ErrNumber, 2)
	}
	refuses(t, "1-0", api.ErrNumber, 1)
	refuses(t, "1.00", api.ErrNumber, 2)
	refuses(t, "-0a", api.ErrNumber, 0)
	reads(t, "-1-1", number(-1, 0), number(-1, 2), end(4))
}

// TestMinus is P4.1: a - begins a token only with a digit or a > right behind it.
func TestMinus(t *testing.T) {
	for _, behind := range []string{"", " ", " 5", " >", "-", "-5", "->", "a", "_", ".", "{", "=", "#", "#\n5", "\n>", "\x00", "\x80", "A", "+1"} {
		refuses(t, "-"+behind, api.ErrByte, 0)
		refuses(t, "a. -"+behind, api.ErrByte, 3)
	}
	refuses(t, "->>", api.ErrByte, 2)
	refuses(t, "> ->", api.ErrByte, 0)
	refuses(t, "1->-", api.ErrByte, 3)
}

// TestEveryByte is P4.1: what each byte is, alone and ahead of what may belong to it.
func TestEveryByte(t *testing.T) {
	for i := range 256 {
		s := string([]byte{byte(i)})
		switch {
		case strings.Contains(" \t\r\n#", s):
			reads(t, s, end(1))
		case 'a' <= i && i <= 'z':
			reads(t, s, word(s, 0), end(1))
		case '0' <= i && i <= '9':
			reads(t, s, number(i-'0', 0), end(1))
		case strings.Contains("{}=;.", s):
			reads(t, s, mark(s, 0), end(1))
		default:
			refuses(t, s, api.ErrByte, 0)
			refuses(t, "a; "+s, api.ErrByte, 3)
		}
		for j := range 256 {
			holds(t, string([]byte{byte(i), byte(j)}))
			holds(t, string([]byte{'a', byte(i), '1', byte(j), '5'}))
		}
	}
	refuses(t, "é", api.ErrByte, 0)
	refuses(t, "aé", api.ErrByte, 1)
	refuses(t, "a\u00a0b", api.ErrByte, 1)
}

// TestTextsAtTheirLimit is P4.1: a text may have 1048576 bytes; one more is told ahead of all else.
func TestTextsAtTheirLimit(t *testing.T) {
	const most = 1048576
	reads(t, strings.Repeat(" ", most), end(most))
	reads(t, strings.Repeat("\n", most-1)+"a", word("a", most-1), end(most))
	reads(t, "7 #"+strings.Repeat("a", most-3), number(7, 0), end(most))
	refuses(t, strings.Repeat(" ", most-1)+"A", api.ErrByte, most-1)
	refuses(t, strings.Repeat(" ", most-1)+"-", api.ErrByte, most-1)
	tokens, f := lex.All(strings.Repeat(";", most))
	if f != (api.Fault{}) || len(tokens) != most+1 || tokens[most-1] != mark(";", most-1) || tokens[most] != end(most) {
		t.Error(len(tokens), f)
	}
	for _, text := range []string{
		strings.Repeat(" ", most+1), strings.Repeat("A", most+1), strings.Repeat("a", most+1), strings.Repeat("0", most+1),
		strings.Repeat(";", most+1), "#" + strings.Repeat(" ", most), "A" + strings.Repeat(" ", 2*most), strings.Repeat(" ", most) + "-",
	} {
		refuses(t, text, api.ErrLong, most)
	}
}

// TestTheFirstErrorIsTold is P4.1: of several errors the one that stands first, whichever they are.
func TestTheFirstErrorIsTold(t *testing.T) {
	faults := map[string]api.Errno{"A": api.ErrByte, "-": api.ErrByte, "\xff": api.ErrByte, "00": api.ErrNumber, "-0": api.ErrNumber, "9223372036854775808": api.ErrNumber, "abcdefghijklmnopq": api.ErrWord}
	for one, e := range faults {
		for other := range faults {
			refuses(t, one+" "+other, e, 0)
			refuses(t, "x = "+one+"\n"+other+" y", e, 4)
			refuses(t, "# "+other+"\n"+one, e, 3+len(other))
		}
	}
	refuses(t, "abcdefghijklmnopqA", api.ErrWord, 0)
	refuses(t, "007A", api.ErrNumber, 0)
	refuses(t, "00abcdefghijklmnopq", api.ErrNumber, 0)
	refuses(t, "Aabcdefghijklmnopq", api.ErrByte, 0)
	refuses(t, "-abcdefghijklmnopq", api.ErrByte, 0)
	refuses(t, "_00", api.ErrByte, 0)
}

// TestAgainstPatterns is P4.1: all short texts of bytes that meet one another, and many long ones, are read as the table's patterns say.
func TestAgainstPatterns(t *testing.T) {
	letters := "a_01->.# \nA"
	texts := []string{""}
	for from := 0; len(texts[from]) < 5; from++ {
		for i := range letters {
			texts = append(texts, texts[from]+letters[i:i+1])
		}
	}
	for _, text := range texts {
		holds(t, text)
	}
	for _, text := range append(mixed(6000, true), mixed(2000, false)...) {
		holds(t, text)
	}
}

// TestWhatATokenHas is P4.1 and R4: a Word and a Mark have their Text alone, a Number its Num, End neither; what stands at a place is the token's text.
func TestWhatATokenHas(t *testing.T) {
	read := 0
	for _, text := range mixed(3000, false) {
		tokens, f := lex.All(text)
		if f != (api.Fault{}) {
			continue
		}
		read++
		last := len(tokens) - 1
		for i, x := range tokens {
			stands := x.Text
			switch x.Sort {
			case api.Word, api.Mark:
				if x.Text == "" || x.Num != 0 {
					t.Errorf("%q: %v", text, x)
				}
			case api.Number:
				if x.Text != "" {
					t.Errorf("%q: %v", text, x)
				}
				stands = strconv.Itoa(x.Num)
			case api.End:
				if x.Text != "" || x.Num != 0 || i != last || x.At != len(text) {
					t.Errorf("%q: %v", text, x)
				}
			default:
				t.Errorf("%q: %v", text, x)
			}
			if !strings.HasPrefix(text[x.At:], stands) {
				t.Errorf("%q: %v does not stand there", text, x)
			}
			if i > 0 && x.At <= tokens[i-1].At && x.Sort != api.End {
				t.Errorf("%q: %v behind %v", text, x, tokens[i-1])
			}
		}
		if last < 0 || tokens[last].Sort != api.End {
			t.Errorf("%q: no End: %v", text, tokens)
		}
	}
	if read < 200 {
		t.Errorf("only %d texts were read", read)
	}
}

// TestName is P4.2.
func TestName(t *testing.T) {
	for _, s := range []string{"a", "z", "edge", "graph", "actor", "in", "out", "with", "a_1", "a_", "a0", "z9_", "abcdefghijklmnop", "a000000000000000", "a_______________"} {
		if !lex.Name(s) {
			t.Errorf("Name(%q): false", s)
		}
	}
	for _, s := range []string{
		"", "1a", "_a", "a b", "aB", "A", "1", "-1", "_", ".", "->", " ", " a", "a ", "a\n", "\na", "a#", "#a", "# a\na", "a.b", "a;", "a-1", "a->b",
		"\x00", "a\x00", "\x00a", "a\x80", "é", "aé", "abcdefghijklmnopq", "abcdefghijklmno p", "abcdefghijklmnop ", strings.Repeat("a", 1048577),
	} {
		if lex.Name(s) {
			t.Errorf("Name(%s): true", short(s))
		}
	}
}

// TestNamesAreWords is P4.2: a text is a name, if and only if it is read as one word that is all of it.
func TestNamesAreWords(t *testing.T) {
	texts := append(mixed(2000, true), "abcdefghijklmnop", "abcdefghijklmnopq", "a\n", "a#", " a")
	for i := range 256 {
		b := string([]byte{byte(i)})
		texts = append(texts, b, "a"+b, "a"+b+"c", b+"a", "abcdefghijklmno"+b, "abcdefghijklmnop"+b)
	}
	for _, s := range texts {
		tokens, f := lex.All(s)
		want := f == (api.Fault{}) && slices.Equal(tokens, []api.Token{word(s, 0), end(len(s))})
		if lex.Name(s) != want {
			t.Errorf("Name(%q): %v, but All: %v %v", s, !want, tokens, f)
		}
	}
}

// written is tokens as a text, with a blank between each two.
func written(tokens []api.Token) string {
	var all []string
	for _, x := range tokens {
		switch x.Sort {
		case api.Number:
			all = append(all, strconv.Itoa(x.Num))
		case api.Word, api.Mark:
			all = append(all, x.Text)
		}
	}
	return strings.Join(all, " ")
}

// moved is tokens with their places so much on.
func moved(tokens []api.Token, by int) []api.Token {
	all := slices.Clone(tokens)
	for i := range all {
		all[i].At += by
	}
	return all
}

func placeless(tokens []api.Token) []api.Token {
	all := slices.Clone(tokens)
	for i := range all {
		all[i].At = 0
	}
	return all
}

// TestWrittenAgain is P4.3: tokens that are written are read as the same, but for their places.
func TestWrittenAgain(t *testing.T) {
	for _, text := range append(mixed(4000, false), "", "->-1{}a.0", "-9223372036854775808-1", "up2 2up 1-2") {
		tokens, f := lex.All(text)
		if f != (api.Fault{}) {
			continue
		}
		again, f := lex.All(written(tokens))
		if f != (api.Fault{}) || !slices.Equal(placeless(again), placeless(tokens)) {
			t.Errorf("%q: %v, but again %v %v", text, tokens, again, f)
		}
	}
}

// TestTwoTexts is P4.3: with a byte 0A between them, two texts are read as each by itself, and an error of the first one is that of both.
func TestTwoTexts(t *testing.T) {
	texts := append(mixed(400, true), "", "#", "# a", "a", "-", "1", "abcdefghijklmnop", "-1", "-\n", "A", "00")
	for i, one := range texts {
		tokens, f := lex.All(one)
		for _, other := range []string{texts[(7*i+3)%len(texts)], "", ">", "1", "a", "-", "# a", "A", "abcdefghijklmnopq", "7->x"} {
			more, f2 := lex.All(other)
			both, got := lex.All(one + "\n" + other)
			var want []api.Token
			wantFault := f
			switch {
			case f != (api.Fault{}):
			case f2 != (api.Fault{}):
				wantFault = fault(f2.Code, f2.At+len(one)+1)
			default:
				want = append(slices.Clone(tokens[:len(tokens)-1]), moved(more, len(one)+1)...)
			}
			if !slices.Equal(both, want) || got != wantFault {
				t.Errorf("%q and %q: %v %v, not %v %v", one, other, both, got, want, wantFault)
			}
		}
	}
}

// TestAheadOfAnError is P4.3: what stands ahead of an error's place is read, and not a byte more than the error's own token is looked at.
func TestAheadOfAnError(t *testing.T) {
	refused := 0
	for _, text := range append(mixed(4000, true), "a 007", "1--5", "a->-", "x abcdefghijklmnopq", "é", "a#\n-") {
		_, f := lex.All(text)
		if f == (api.Fault{}) {
			continue
		}
		refused++
		if tokens, ahead := lex.All(text[:f.At]); ahead != (api.Fault{}) || tokens[len(tokens)-1] != end(f.At) {
			t.Errorf("%q is refused at %d, but what stands ahead of it too: %v", text, f.At, ahead)
		}
		if tokens, again := lex.All(text + "\nA 00 \xff"); len(tokens) != 0 || again != f {
			t.Errorf("%q is refused with %v, with more behind it with %v", text, f, again)
		}
	}
	if refused < 1000 {
		t.Errorf("only %d texts were refused", refused)
	}
}

// TestTokensAreTheCallersOwn is R2: what a call has answered may be written into, and no other call knows of it.
func TestTokensAreTheCallersOwn(t *testing.T) {
	text := "edge a.0 -> b1.2; -3"
	want, _ := expected(text)
	one, _ := lex.All(text)
	other, _ := lex.All(text)
	one = one[:cap(one)]
	for i := range one {
		one[i] = api.Token{Sort: api.Mark, Text: "?", Num: 7, At: -1}
	}
	if !slices.Equal(other, want) {
		t.Error("two answers share their memory:", other)
	}
	reads(t, text, want...)
}
