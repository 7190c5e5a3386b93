package code_test

import (
	"reflect"
	"slices"
	"testing"

	"pianola/api"
	"pianola/code"
)

// scrawl writes into a list and into all the room behind it.
func scrawl[T any](list []T, with T) {
	list = list[:cap(list)]
	for i := range list {
		list[i] = with
	}
}

// scrawlAll writes into all lists of a program.
func scrawlAll(p api.Program) {
	for _, one := range p.Parts {
		scrawl(one.Params, 77)
	}
	for _, one := range p.Lines {
		scrawl(one.Start, 77)
	}
	scrawl(p.Parts, part(77))
	scrawl(p.Lines, line(77, 77))
	scrawl(p.Ops, op(7, 7, 7))
}

// roomy is the same list with room behind it, in which these lie.
func roomy[T any](list []T, behind ...T) []T {
	return slices.Concat(list, behind)[:len(list)]
}

// roomyProgram is the same program with room behind all its lists; what lies there would, as a rule, make it another one, or a wrong one.
func roomyProgram(p api.Program) api.Program {
	p.Parts = roomy(p.Parts, part(0), part(api.Sum, 1), part(api.Sum))
	for i := range p.Parts {
		p.Parts[i].Params = roomy(p.Parts[i].Params, 1, least, greatest)
	}
	p.Lines = roomy(p.Lines, line(-1, 5), line(0, 0, 1), line(0, 0))
	for i := range p.Lines {
		p.Lines[i].Start = roomy(p.Lines[i].Start, 9, 8, 7)
	}
	p.Ops = roomy(p.Ops, end(), op(9, 9, 9), call(0), op(api.OpHead, 0, 2))
	return p
}

// full is a roomy program with all its room.
func full(p api.Program) api.Program {
	p = copied(api.Program{Memory: p.Memory, Counters: p.Counters, Ins: p.Ins, Outs: p.Outs, Parts: p.Parts[:cap(p.Parts)], Lines: p.Lines[:cap(p.Lines)], Ops: p.Ops[:cap(p.Ops)]})
	for i, one := range p.Parts {
		p.Parts[i].Params = one.Params[:cap(one.Params)]
	}
	for i, one := range p.Lines {
		p.Lines[i].Start = one.Start[:cap(one.Start)]
	}
	return copied(p)
}

// TestGivenIsLeft is R2: programs, and the room behind their lists, are neither written into nor, behind their lengths, read.
func TestGivenIsLeft(t *testing.T) {
	c := chance(291)
	met := map[api.Errno]int{}
	for round := range 1500 {
		p := c.program()
		if round%2 == 0 {
			c.spoil(&p)
		}
		if len(p.Ops) > 300 {
			continue
		}
		given := roomyProgram(copied(p))
		was := full(given)
		e := agrees(t, given)
		if e != refusalOf(p) {
			t.Fatalf("%v: %v", told(p), e)
		}
		if !reflect.DeepEqual(full(given), was) {
			t.Fatalf("%v is changed", told(p))
		}
		met[e]++
	}
	for _, e := range []api.Errno{api.OK, api.ErrSize, api.ErrStart, api.ErrOp, api.ErrLoops} {
		if met[e] < 10 {
			t.Errorf("%v: %d only", e, met[e])
		}
	}
}

// TestNothingIsShared is R2: the lists of an answer share no memory with one another, nor with those of another answer.
func TestNothingIsShared(t *testing.T) {
	c := chance(292)
	for range 500 {
		p := c.program()
		if code.Check(p) != api.OK {
			continue
		}
		data := encoded(t, p)
		one, _ := code.Decode(data)
		two, _ := code.Decode(data)
		for i := range two.Parts {
			scrawl(two.Parts[i].Params, 77)
			two.Parts[i].Params = slices.Clone(p.Parts[i].Params)
		}
		if !same(two, p) {
			t.Fatalf("%v: parts share their parameters", told(p))
		}
		for i := range two.Lines {
			scrawl(two.Lines[i].Start, 77)
			two.Lines[i].Start = slices.Clone(p.Lines[i].Start)
		}
		if !same(two, p) {
			t.Fatalf("%v: lines share their tokens", told(p))
		}
		scrawlAll(two)
		if !same(one, p) {
			t.Fatalf("%v is %v, once another one is written into", told(p), told(one))
		}
		scrawlAll(p)
		if !same(one, decoded(t, data)) {
			t.Fatalf("%v is kept", told(one))
		}
	}
}

// decoded is Decode's answer of bytes that are a program's.
func decoded(t *testing.T, data string) api.Program {
	t.Helper()
	p, f := code.Decode(data)
	if f != (api.Fault{}) {
		t.Fatalf("%X: %v", data, f)
	}
	return p
}

// TestCallsAreApart is R2: calls do not hang on those ahead of them, of other programs and bytes and of such that are refused.
func TestCallsAreApart(t *testing.T) {
	c := chance(293)
	for range 300 {
		p := c.program()
		data, _ := code.Encode(p)
		code.Decode(c.change("PNL1" + data))
		code.Decode(c.change(data))
		code.Show(op(api.OpKind(c.below(10)), c.edge(), c.edge()))
		c.spoil(&p)
		code.Steps(p)
		code.Encode(p)
		TestExamples(t)
		TestEncodeExample(t)
		TestDecodeExamples(t)
		TestShow(t)
	}
}
