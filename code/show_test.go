package code_test

import (
	"math/big"
	"testing"

	"pianola/api"
	"pianola/code"
)

func showIs(t *testing.T, o api.Op, text string, why api.Errno) {
	t.Helper()
	if got, e := code.Show(o); got != text || e != why {
		t.Errorf("Show(%v): %q %v, not %q %v", o, got, e, text, why)
	}
}

// TestShow is P20.5: the chapter's examples, and an operation of each kind.
func TestShow(t *testing.T) {
	showIs(t, op(api.OpBack, -1, 7), "back -1 7", api.OK)
	showIs(t, op(api.OpCall, 3, 9), "call 3", api.OK)
	showIs(t, op(api.OpEnd, 0, 0), "end", api.OK)
	showIs(t, op(api.OpHead, 1, 2), "head 1 2", api.OK)
	showIs(t, op(api.OpBack, 3, 4), "back 3 4", api.OK)
	showIs(t, op(api.OpTake, 5, 6), "take 5 6", api.OK)
	showIs(t, op(api.OpRead, 7, 8), "read 7 8", api.OK)
	showIs(t, op(api.OpCall, 9, 0), "call 9", api.OK)
	showIs(t, op(api.OpGive, 10, 11), "give 10 11", api.OK)
	showIs(t, op(api.OpWrite, 12, 13), "write 12 13", api.OK)
}

// TestShowWhatMayNotBe is P20.5: A and B may be any numbers; a kind is one of the table's.
func TestShowWhatMayNotBe(t *testing.T) {
	numbers := []int{least, least + 1, -1000, -10, -1, 0, 1, 9, 10, 64, 65, 4096, greatest - 1, greatest}
	for kind := range 256 {
		for _, a := range numbers {
			for _, b := range numbers {
				o := op(api.OpKind(kind), a, b)
				if kind > 7 {
					showIs(t, o, "", api.ErrOp)
					continue
				}
				text := table(api.Program{})[kind].word
				if kind != 0 {
					text += " " + big.NewInt(int64(a)).String()
				}
				if kind != 0 && kind != 5 {
					text += " " + big.NewInt(int64(b)).String()
				}
				showIs(t, o, text, api.OK)
			}
		}
	}
}

// TestShownPrograms is P20.5: the operations of the document's whole examples, as these tell them.
func TestShownPrograms(t *testing.T) {
	shown := list("head 0 2", "call 0", "give 0 1", "back 0 1", "take 0 2", "call 1", "end")
	for i, o := range ops(loop(0, 0, 2, call(0), op(api.OpGive, 0, 1)), list(op(api.OpTake, 0, 2), call(1))) {
		showIs(t, o, shown[i], api.OK)
	}
	shown = list("read 0 1", "call 0", "give 0 4", "head 0 2", "take 0 2", "call 1", "give 1 1", "take 1 1", "call 2", "write 0 1", "back 0 4", "end")
	inside := list(op(api.OpTake, 0, 2), call(1), op(api.OpGive, 1, 1), op(api.OpTake, 1, 1), call(2), op(api.OpWrite, 0, 1))
	for i, o := range ops(list(op(api.OpRead, 0, 1), call(0), op(api.OpGive, 0, 4)), loop(3, 0, 2, inside...)) {
		showIs(t, o, shown[i], api.OK)
	}
}
