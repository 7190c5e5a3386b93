package code_test

import (
	"math/big"
	"slices"
	"strings"
	"testing"

	"pianola/api"
	"pianola/code"
	"pianola/shape"
)

const (
	least    = -9223372036854775808
	greatest = 9223372036854775807
)

func op(kind api.OpKind, a, b int) api.Op { return api.Op{Kind: kind, A: a, B: b} }

func part(tag api.Tag, params ...int) api.Part { return api.Part{Tag: tag, Params: params} }

func line(base, size int, start ...int) api.Line {
	return api.Line{Region: api.Region{Base: base, Size: size}, Start: start}
}

func list[T any](of ...T) []T { return of }

func end() api.Op { return op(api.OpEnd, 0, 0) }

func call(a int) api.Op { return op(api.OpCall, a, 0) }

// ops are such operations, one behind the other, and an end.
func ops(rows ...[]api.Op) []api.Op { return append(slices.Concat(rows...), end()) }

// loop is one over such operations that stands at a place: its head, they, its back.
func loop(place, counter, times int, inside ...api.Op) []api.Op {
	return slices.Concat(list(op(api.OpHead, counter, times)), inside, list(op(api.OpBack, counter, place+1)))
}

// within is a row of loops that stand within one another, each of them alone, the first one at a place.
func within(place int, times ...int) []api.Op {
	if len(times) == 0 {
		return nil
	}
	return loop(place, place, times[0], within(place+1, times[1:]...)...)
}

// small is the chapter's example.
func small() api.Program {
	return api.Program{Memory: 2, Counters: 1, Outs: 1, Parts: list(part(api.Tick, 5, -1)), Ops: ops(loop(0, 0, 3, call(0), op(api.OpWrite, 0, 1)))}
}

// wide has of each thing more than one, and each kind of operations.
func wide() api.Program {
	return api.Program{
		Memory: 700, Counters: 3, Ins: 2, Outs: 2,
		Parts: list(part(api.Filter, 1, least, greatest), part(api.Quot), part(api.Up, 64)),
		Lines: list(line(0, 300, 7, -7), line(300, 400, 1, 0, -1, greatest), line(700, 0)),
		Ops: ops(
			list(op(api.OpTake, 1, 64), op(api.OpRead, 1, 2), call(1)),
			loop(3, 2, 5, slices.Concat(loop(4, 0, 2, op(api.OpGive, 0, 1)), list(call(2)))...),
			list(op(api.OpWrite, 1, 1), op(api.OpTake, 2, 3)),
		),
	}
}

// many is a program whose lists are as long as they may be.
func many() api.Program {
	p := api.Program{Memory: 1024, Counters: 17, Ins: 16, Outs: 16}
	tokens := make([]int, 1024)
	for i := range tokens {
		tokens[i] = (i - 500) * 6148914691236517
	}
	p.Parts = slices.Repeat(list(part(api.Filter, tokens[:16]...)), 32)
	p.Lines = slices.Repeat(list(line(0, 1024, tokens...)), 96)
	for at := range 131072 {
		p.Ops = append(p.Ops, call(at%32))
	}
	p.Ops[131071] = end()
	return p
}

// same tells whether two programs are the same; lists without elements are.
func same(p, q api.Program) bool {
	parts := slices.EqualFunc(p.Parts, q.Parts, func(a, b api.Part) bool { return a.Tag == b.Tag && slices.Equal(a.Params, b.Params) })
	lines := slices.EqualFunc(p.Lines, q.Lines, func(a, b api.Line) bool { return a.Region == b.Region && slices.Equal(a.Start, b.Start) })
	return parts && lines && slices.Equal(p.Ops, q.Ops) && p.Memory == q.Memory && p.Counters == q.Counters && p.Ins == q.Ins && p.Outs == q.Outs
}

// copied shares no list with the program.
func copied(p api.Program) api.Program {
	p.Parts, p.Lines, p.Ops = slices.Clone(p.Parts), slices.Clone(p.Lines), slices.Clone(p.Ops)
	for i := range p.Parts {
		p.Parts[i].Params = slices.Clone(p.Parts[i].Params)
	}
	for i := range p.Lines {
		p.Lines[i].Start = slices.Clone(p.Lines[i].Start)
	}
	return p
}

// rule is a row of the chapter's table, of a program: A is from 0 to below such a number, B between two.
type rule struct {
	kind      api.OpKind
	word      string
	below     int
	low, high int
}

func table(p api.Program) []rule {
	return list(
		rule{0, "end", 1, 0, 0},
		rule{1, "head", p.Counters, 1, 2048},
		rule{2, "back", p.Counters, 0, len(p.Ops) - 1},
		rule{3, "take", len(p.Lines), 1, 64},
		rule{4, "read", p.Ins, 1, 64},
		rule{5, "call", len(p.Parts), 0, 0},
		rule{6, "give", len(p.Lines), 1, 64},
		rule{7, "write", p.Outs, 1, 64},
	)
}

// around are the places of the heads that are open where an operation stands.
func around(all []api.Op, at int) []int {
	var open []int
	for i, o := range all[:at] {
		if o.Kind == api.OpHead {
			open = append(open, i)
		} else if o.Kind == api.OpBack && len(open) > 0 {
			open = open[:len(open)-1]
		}
	}
	return open
}

// stepsOf counts how often each operation is done: as often as all loops that it is within go round. A back is within the loop that it closes.
func stepsOf(all []api.Op) *big.Int {
	steps := new(big.Int)
	for at := range all {
		times := big.NewInt(1)
		for _, h := range around(all, at) {
			times.Mul(times, big.NewInt(int64(all[h].B)))
		}
		steps.Add(steps, times)
	}
	return steps
}

// refusalOf is Check's answer, of a program that is not long.
func refusalOf(p api.Program) api.Errno {
	outside := func(n, most int) bool { return n < 0 || n > most }
	if outside(p.Memory, 1024) || outside(p.Counters, 17) || outside(p.Ins, 16) || outside(p.Outs, 16) {
		return api.ErrArg
	}
	if len(p.Parts) > 32 || len(p.Lines) > 96 || len(p.Ops) > 131072 {
		return api.ErrMany
	}
	for _, one := range p.Parts {
		if _, _, e := shape.Of(one.Tag, one.Params...); e != api.OK {
			return e
		}
	}
	for _, one := range p.Lines {
		behind := new(big.Int).Add(big.NewInt(int64(one.Region.Base)), big.NewInt(int64(one.Region.Size)))
		if one.Region.Base < 0 || one.Region.Size < 0 || behind.Cmp(big.NewInt(int64(p.Memory))) > 0 {
			return api.ErrSize
		}
		if len(one.Start) > one.Region.Size {
			return api.ErrStart
		}
	}
	for at := range p.Ops {
		if e := refusalAt(p, at); e != api.OK {
			return e
		}
	}
	if len(p.Ops) == 0 || p.Ops[len(p.Ops)-1].Kind != api.OpEnd {
		return api.ErrOp
	}
	if stepsOf(p.Ops).Cmp(big.NewInt(131072)) > 0 {
		return api.ErrTooBig
	}
	return api.OK
}

// refusalAt is what is wrong with an operation, if nothing is with those ahead of it.
func refusalAt(p api.Program, at int) api.Errno {
	o := p.Ops[at]
	fits := slices.ContainsFunc(table(p), func(r rule) bool {
		return o.Kind == r.kind && o.A >= 0 && o.A < r.below && o.B >= r.low && o.B <= r.high
	})
	if !fits || o.Kind == api.OpEnd && at < len(p.Ops)-1 {
		return api.ErrOp
	}
	open := around(p.Ops, at)
	switch o.Kind {
	case api.OpHead:
		if slices.ContainsFunc(open, func(h int) bool { return p.Ops[h].A == o.A }) {
			return api.ErrLoops
		}
	case api.OpBack:
		if len(open) == 0 || p.Ops[open[len(open)-1]].A != o.A || open[len(open)-1]+1 != o.B {
			return api.ErrLoops
		}
	case api.OpEnd:
		if len(open) > 0 {
			return api.ErrLoops
		}
	}
	return api.OK
}

// digits are a number's bytes.
func digits(n *big.Int) string {
	rest, digit := new(big.Int), new(big.Int)
	rest.QuoRem(n, big.NewInt(128), digit)
	if rest.Sign() == 0 {
		return string([]byte{byte(digit.Int64())})
	}
	return string([]byte{byte(128 + digit.Int64())}) + digits(rest)
}

func countForm(n int) string { return digits(big.NewInt(int64(n))) }

func integerForm(n int) string {
	twice := big.NewInt(int64(n))
	twice.Mul(twice, big.NewInt(2))
	if n < 0 {
		twice.Neg(twice)
		twice.Sub(twice, big.NewInt(1))
	}
	return digits(twice)
}

func integerForms(ns []int) string {
	text := countForm(len(ns))
	for _, n := range ns {
		text += integerForm(n)
	}
	return text
}

// bytesOf are a program's, sound or not, if its numbers are what counts may be.
func bytesOf(p api.Program) string {
	var text strings.Builder
	text.WriteString("\x50\x4E\x4C\x31")
	for _, n := range list(p.Memory, p.Counters, p.Ins, p.Outs, len(p.Parts)) {
		text.WriteString(countForm(n))
	}
	for _, one := range p.Parts {
		text.WriteString(string([]byte{byte(one.Tag)}) + integerForms(one.Params))
	}
	text.WriteString(countForm(len(p.Lines)))
	for _, one := range p.Lines {
		text.WriteString(countForm(one.Region.Base) + countForm(one.Region.Size) + integerForms(one.Start))
	}
	text.WriteString(countForm(len(p.Ops)))
	for _, one := range p.Ops {
		text.WriteString(string([]byte{byte(one.Kind)}) + countForm(one.A) + countForm(one.B))
	}
	return text.String()
}

// reading goes through bytes up to the first fault; from there on it reads noughts.
type reading struct {
	data  string
	at    int
	fault api.Fault
}

func (r *reading) wrong(code api.Errno, at int) {
	if r.fault == (api.Fault{}) {
		r.fault = api.Fault{Code: code, At: at}
	}
}

// octets are the next bytes; none, if there are not so many.
func (r *reading) octets(many int) string {
	if r.fault != (api.Fault{}) || r.at+many > len(r.data) {
		r.wrong(api.ErrShort, len(r.data))
		return ""
	}
	return r.data[r.at : r.at+many]
}

func (r *reading) octet() int {
	text := r.octets(1)
	r.at += len(text)
	return int(("\x00" + text)[len(text)])
}

// number is the one whose bytes stand here, of which there may be so many.
func (r *reading) number(most int) *big.Int {
	for many := 1; many <= most; many++ {
		text := r.octets(many)
		if text == "" {
			return new(big.Int)
		}
		if text[many-1] >= 128 {
			continue
		}
		n := new(big.Int)
		for i := range many {
			n.Mul(n, big.NewInt(128))
			n.Add(n, big.NewInt(int64(text[many-1-i]%128)))
		}
		if digits(n) != text || !n.IsUint64() {
			break
		}
		r.at += many
		return n
	}
	r.wrong(api.ErrNumber, r.at)
	return new(big.Int)
}

func (r *reading) count() int { return int(r.number(3).Int64()) }

func (r *reading) integer() int {
	n, odd := new(big.Int), new(big.Int)
	n.QuoRem(r.number(10), big.NewInt(2), odd)
	if odd.Sign() > 0 {
		n.Neg(n)
		n.Sub(n, odd)
	}
	return int(n.Int64())
}

// each does so often as is told here, at most so often, and till the first fault.
func (r *reading) each(most int, do func()) {
	at := r.at
	many := r.count()
	if many > most {
		r.wrong(api.ErrMany, at)
	}
	for range many {
		if r.fault != (api.Fault{}) {
			return
		}
		do()
	}
}

// programOf is what bytes say, or the first fault.
func programOf(data string) (api.Program, api.Fault) {
	r := &reading{data: data, at: 4}
	if len(data) < 4 || data[:4] != "PNL1" {
		return api.Program{}, api.Fault{Code: api.ErrMagic}
	}
	var p api.Program
	p.Memory, p.Counters, p.Ins, p.Outs = r.count(), r.count(), r.count(), r.count()
	r.each(32, func() {
		one := part(api.Tag(r.octet()))
		r.each(16, func() { one.Params = append(one.Params, r.integer()) })
		p.Parts = append(p.Parts, one)
	})
	r.each(96, func() {
		one := line(r.count(), r.count())
		r.each(1024, func() { one.Start = append(one.Start, r.integer()) })
		p.Lines = append(p.Lines, one)
	})
	r.each(131072, func() { p.Ops = append(p.Ops, op(api.OpKind(r.octet()), r.count(), r.count())) })
	if r.at < len(data) {
		r.wrong(api.ErrMore, r.at)
	}
	if e := refusalOf(p); e != api.OK {
		r.wrong(e, len(data))
	}
	if r.fault != (api.Fault{}) {
		return api.Program{}, r.fault
	}
	return p, api.Fault{}
}

// told is the beginning of a program's lists, which may be too long to be told.
func told(p api.Program) api.Program {
	p.Parts, p.Lines, p.Ops = p.Parts[:min(8, len(p.Parts))], p.Lines[:min(8, len(p.Lines))], p.Ops[:min(40, len(p.Ops))]
	return p
}

// refused fails, unless Check, Steps and Encode answer this error of a program, and noughts beside it.
func refused(t *testing.T, p api.Program, why api.Errno) {
	t.Helper()
	checkIs(t, p, why)
	stepsAre(t, p, 0, why)
	encodeIs(t, p, "", why)
}

// sound fails, unless Check, Steps and Encode say that a program is sound, and has so many steps and these bytes, and Decode reads these.
func sound(t *testing.T, p api.Program, steps int) {
	t.Helper()
	checkIs(t, p, api.OK)
	stepsAre(t, p, steps, api.OK)
	encodeIs(t, p, bytesOf(p), api.OK)
	decodeIs(t, bytesOf(p), p, api.Fault{})
}

// agrees fails, unless Check, Steps, Encode and Decode answer of a program what the model does, which is told.
func agrees(t *testing.T, p api.Program) api.Errno {
	t.Helper()
	e := refusalOf(p)
	if e == api.OK {
		sound(t, p, int(stepsOf(p.Ops).Int64()))
	} else {
		refused(t, p, e)
	}
	return e
}

func checkIs(t *testing.T, p api.Program, want api.Errno) {
	t.Helper()
	if e := code.Check(p); e != want {
		t.Fatalf("Check(%v): %v, not %v", told(p), e, want)
	}
}

func stepsAre(t *testing.T, p api.Program, want int, why api.Errno) {
	t.Helper()
	if steps, e := code.Steps(p); steps != want || e != why {
		t.Fatalf("Steps(%v): %v %v, not %v %v", told(p), steps, e, want, why)
	}
}

func encodeIs(t *testing.T, p api.Program, want string, why api.Errno) {
	t.Helper()
	if data, e := code.Encode(p); data != want || e != why {
		t.Fatalf("Encode(%v): %X %v, not %X %v", told(p), data[:min(99, len(data))], e, want[:min(99, len(want))], why)
	}
}

func decodeIs(t *testing.T, data string, want api.Program, fault api.Fault) {
	t.Helper()
	if p, f := code.Decode(data); !same(p, want) || f != fault {
		t.Fatalf("Decode(%X): %v %v, not %v %v", data[:min(99, len(data))], told(p), f, told(want), fault)
	}
}

// unread fails, unless Decode answers this fault, and no program.
func unread(t *testing.T, data string, why api.Errno, at int) {
	t.Helper()
	decodeIs(t, data, api.Program{}, api.Fault{Code: why, At: at})
}

// reads fails, unless Decode answers of bytes what the model does, which is told.
func reads(t *testing.T, data string) (api.Program, api.Fault) {
	t.Helper()
	p, f := programOf(data)
	decodeIs(t, data, p, f)
	return p, f
}
