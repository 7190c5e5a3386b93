package code

import "pianola/api"

// writer writes programs that are sound.
type writer struct {
	bytes []byte
}

func (w *writer) program(p api.Program) {
	w.bytes = append(w.bytes, magic...)
	w.counts(p.Memory, p.Counters, p.Ins, p.Outs, len(p.Parts))
	for _, part := range p.Parts {
		w.bytes = append(w.bytes, byte(part.Tag))
		w.integers(part.Params)
	}
	w.counts(len(p.Lines))
	for _, line := range p.Lines {
		w.counts(line.Region.Base, line.Region.Size)
		w.integers(line.Start)
	}
	w.counts(len(p.Ops))
	for _, op := range p.Ops {
		w.bytes = append(w.bytes, byte(op.Kind))
		w.counts(op.A, op.B)
	}
}

func (w *writer) counts(ns ...int) {
	for _, n := range ns {
		w.number(uint64(n))
	}
}

// integers are written behind how many they are.
func (w *writer) integers(ns []int) {
	w.counts(len(ns))
	for _, n := range ns {
		w.number(uint64(n)<<1 ^ uint64(n>>63))
	}
}

// number writes seven bits a byte, the lowest first.
func (w *writer) number(n uint64) {
	for n >= 0x80 {
		w.bytes = append(w.bytes, byte(n)|0x80)
		n >>= 7
	}
	w.bytes = append(w.bytes, byte(n))
}
