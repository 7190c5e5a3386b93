package code_test

import (
	"strings"
	"testing"

	"pianola/api"
	"pianola/code"
)

// TestDecodeExamples is P20.4: the chapter's examples.
func TestDecodeExamples(t *testing.T) {
	unread(t, "PNL", api.ErrMagic, 0)
	unread(t, "PNL1\x82\x00", api.ErrNumber, 4)
	unread(t, "PNL1\x82", api.ErrShort, 5)
	decodeIs(t, bytesOf(small()), small(), api.Fault{})
}

// TestMagic is P20.4: other bytes at the beginning, whatever is behind them.
func TestMagic(t *testing.T) {
	right := bytesOf(small())
	for at := range 4 {
		unread(t, right[:at], api.ErrMagic, 0)
		unread(t, right[:at]+right[at+1:], api.ErrMagic, 0)
		for b := range 256 {
			if other := string([]byte{byte(b)}); other != right[at:at+1] {
				unread(t, right[:at]+other+right[at+1:], api.ErrMagic, 0)
				unread(t, right[:at]+other, api.ErrMagic, 0)
			}
			unread(t, string([]byte{byte(b)})+right, api.ErrMagic, 0)
		}
	}
	for _, data := range []string{"", "pnl1", "PNL2", "1LNP", "\x00PNL1", "PNLl", "PN L1", strings.Repeat("\xFF", 1<<20), strings.Repeat("P", 1<<20)} {
		unread(t, data, api.ErrMagic, 0)
	}
	unread(t, "PNL1", api.ErrShort, 4)
}

// behind is what may stand behind the first count: three counts, no part, no line, an end.
const behind = "\x00\x00\x00\x00\x00\x01\x00\x00\x00"

// TestCountForms is P20.4: every first bytes of a count, and whether more are behind them.
func TestCountForms(t *testing.T) {
	for b := range 256 {
		one := "PNL1" + string([]byte{byte(b)})
		if b < 128 {
			unread(t, one, api.ErrShort, 5)
			decodeIs(t, one+behind, api.Program{Memory: b, Ops: ops()}, api.Fault{})
			continue
		}
		unread(t, one, api.ErrShort, 5)
		for next := range 256 {
			two := one + string([]byte{byte(next)})
			n := b - 128 + next%128*128
			switch {
			case next == 0:
				unread(t, two, api.ErrNumber, 4)
				unread(t, two+behind, api.ErrNumber, 4)
			case next < 128 && n > 1024:
				unread(t, two, api.ErrShort, 6)
				unread(t, two+behind, api.ErrArg, 15)
			case next < 128:
				unread(t, two, api.ErrShort, 6)
				decodeIs(t, two+behind, api.Program{Memory: n, Ops: ops()}, api.Fault{})
			default:
				unread(t, two, api.ErrShort, 6)
				for _, third := range []int{0, 1, 2, 127, 128, 129, 255} {
					three := two + string([]byte{byte(third)})
					if third == 0 || third > 127 {
						unread(t, three, api.ErrNumber, 4)
						unread(t, three+behind, api.ErrNumber, 4)
					} else {
						unread(t, three, api.ErrShort, 7)
						unread(t, three+behind, api.ErrArg, 16)
					}
				}
			}
		}
	}
}

// ticks are the bytes of a program with a tick whose second number stands so, at place 12.
func ticks(form string) string {
	return "PNL1\x00\x00\x00\x00\x01\x0A\x02\x02" + form + "\x00\x01\x00\x00\x00"
}

// TestIntegerForms is P20.4: integers in their form and in others, of one byte to twelve, and such that the bytes' end cuts off.
func TestIntegerForms(t *testing.T) {
	for ahead := range 12 {
		for _, fill := range []string{"\x80", "\x81", "\xFF", "\xAA"} {
			begun := strings.Repeat(fill, ahead)
			if ahead < 10 {
				unread(t, ticks(begun)[:12+ahead], api.ErrShort, 12+ahead)
			} else {
				unread(t, ticks(begun)[:12+ahead], api.ErrNumber, 12)
			}
			for last := range 128 {
				form := begun + string([]byte{byte(last)})
				if right := ahead == 0 || last > 0 && ahead < 9 || ahead == 9 && last == 1; !right {
					unread(t, ticks(form), api.ErrNumber, 12)
					unread(t, ticks(form)[:12+len(form)], api.ErrNumber, 12)
				} else if _, f := reads(t, ticks(form)); f != (api.Fault{}) {
					t.Fatalf("%X: %v", form, f)
				} else {
					unread(t, ticks(form)[:12+len(form)], api.ErrShort, 12+len(form))
				}
			}
		}
	}
}

// TestTooManyFollow is P20.4: numbers that say how many follow, at their most and above, whatever is behind them.
func TestTooManyFollow(t *testing.T) {
	for _, c := range []struct {
		ahead string
		most  int
		one   string
		rest  string
	}{
		{"\x00\x00\x00\x00", 32, "\x08\x00", "\x00\x01\x00\x00\x00"},
		{"\x00\x00\x00\x00\x01\x01", 16, "\x05", "\x00\x01\x00\x00\x00"},
		{"\x00\x00\x00\x00\x00", 96, "\x00\x00\x00", "\x01\x00\x00\x00"},
		{"\x80\x08\x00\x00\x00\x00\x01\x00\x80\x08", 1024, "\x05", "\x01\x00\x00\x00"},
		{"\x00\x00\x00\x00\x01\x08\x00\x00", 131072, "\x05\x00\x00", ""},
	} {
		begin := "PNL1" + c.ahead
		for _, many := range []int{c.most + 1, c.most + 2, 2 * c.most, 1<<21 - 1, 1<<14 + c.most, 131073} {
			if many > c.most {
				unread(t, begin+countForm(many), api.ErrMany, len(begin))
				unread(t, begin+countForm(many)+"\xFF\xFF\xFF\xFF", api.ErrMany, len(begin))
				unread(t, begin+countForm(many)+strings.Repeat(c.one, many%200000)+c.rest, api.ErrMany, len(begin))
			}
		}
		full := begin + countForm(c.most) + strings.Repeat(c.one, c.most) + c.rest
		if c.most == 131072 {
			full = full[:len(full)-3] + "\x00\x00\x00"
		}
		if p, f := code.Decode(full); f != (api.Fault{}) || bytesOf(p) != full {
			t.Fatalf("%d of %q: %v", c.most, begin, f)
		}
		unread(t, begin+countForm(c.most), api.ErrShort, len(begin+countForm(c.most)))
		unread(t, begin+"\x80\x80\x80", api.ErrNumber, len(begin))
		unread(t, begin+"\xFF\xFF\x00", api.ErrNumber, len(begin))
		unread(t, begin+"\xFF\xFF", api.ErrShort, len(begin)+2)
	}
}

// TestCheckedAtLast is P20.4: Check's errors stand at the bytes' end, behind all faults of the bytes.
func TestCheckedAtLast(t *testing.T) {
	for _, c := range []struct {
		p   api.Program
		why api.Errno
	}{
		{api.Program{}, api.ErrOp}, {api.Program{Memory: 1025, Ops: ops()}, api.ErrArg}, {api.Program{Memory: 1<<21 - 1}, api.ErrArg}, {api.Program{Counters: 18, Ops: ops()}, api.ErrArg},
		{api.Program{Ins: 17, Ops: ops()}, api.ErrArg}, {api.Program{Outs: 17, Ops: ops()}, api.ErrArg},
		{api.Program{Parts: list(part(0)), Ops: ops()}, api.ErrTag}, {api.Program{Parts: list(part(12)), Ops: ops()}, api.ErrTag}, {api.Program{Parts: list(part(255, 1)), Ops: ops()}, api.ErrTag},
		{api.Program{Parts: list(part(api.Filter)), Ops: ops()}, api.ErrParams}, {api.Program{Parts: list(part(api.Up, -1)), Ops: ops()}, api.ErrParams},
		{api.Program{Memory: 5, Lines: list(line(3, 3)), Ops: ops()}, api.ErrSize}, {api.Program{Lines: list(line(1<<21-1, 1<<21-1)), Ops: ops()}, api.ErrSize},
		{api.Program{Memory: 5, Lines: list(line(3, 2, 1, 2, 3)), Ops: ops()}, api.ErrStart},
		{api.Program{Ops: list(op(8, 0, 0), end())}, api.ErrOp}, {api.Program{Ops: list(op(255, 0, 0), end())}, api.ErrOp}, {api.Program{Ops: list(op(0, 0, 1))}, api.ErrOp},
		{api.Program{Counters: 1, Ops: list(op(api.OpHead, 0, 1<<21-1), op(api.OpBack, 0, 1), end())}, api.ErrOp},
		{api.Program{Counters: 1, Ops: list(op(api.OpHead, 0, 2), op(api.OpBack, 0, 0), end())}, api.ErrLoops},
		{api.Program{Counters: 2, Ops: ops(within(0, 2048, 2048))}, api.ErrTooBig},
	} {
		checkIs(t, c.p, c.why)
		data := bytesOf(c.p)
		unread(t, data, c.why, len(data))
		for at := range data {
			if at >= 4 {
				unread(t, data[:at], api.ErrShort, at)
			}
		}
		unread(t, data+"\x00", api.ErrMore, len(data))
		unread(t, data+data, api.ErrMore, len(data))
	}
}

// TestEveryByteOther is P20.4: programs in which each byte is each other one, is left out, or has another one ahead of it, against a model.
func TestEveryByteOther(t *testing.T) {
	met := map[api.Errno]int{}
	for _, p := range []api.Program{small(), wide(), {Ops: ops()}, {Memory: 300, Lines: list(line(2, 298, 1<<40, -1<<40)), Ops: ops()}} {
		data := bytesOf(p)
		for at := range data {
			for b := range 256 {
				other := string([]byte{byte(b)})
				for _, changed := range []string{data[:at] + other + data[at+1:], data[:at] + other + data[at:], data[:at] + other} {
					_, f := reads(t, changed)
					met[f.Code]++
				}
			}
			reads(t, data[:at]+data[at+1:])
		}
	}
	for _, e := range []api.Errno{api.OK, api.ErrMagic, api.ErrShort, api.ErrNumber, api.ErrMany, api.ErrMore, api.ErrArg, api.ErrTag, api.ErrParams, api.ErrSize, api.ErrStart, api.ErrOp, api.ErrLoops} {
		if met[e] < 5 {
			t.Errorf("%v: %d only", e, met[e])
		}
	}
}

// TestMixedBytes is P20.4: bytes of many programs, changed here and there, against a model.
func TestMixedBytes(t *testing.T) {
	c := chance(204)
	met := map[api.Errno]int{}
	for range 2500 {
		p := c.program()
		if len(p.Ops) > 300 {
			continue
		}
		data := bytesOf(p)
		for range 4 {
			_, f := reads(t, c.change(data))
			met[f.Code]++
		}
	}
	for _, e := range []api.Errno{api.OK, api.ErrMagic, api.ErrShort, api.ErrNumber, api.ErrMany, api.ErrMore, api.ErrArg, api.ErrTag, api.ErrParams, api.ErrSize, api.ErrStart, api.ErrOp, api.ErrLoops} {
		if met[e] < 10 {
			t.Errorf("%v: %d only", e, met[e])
		}
	}
}

// TestAnyBytes is P20.4: bytes without any meaning behind the first four, against a model.
func TestAnyBytes(t *testing.T) {
	c := chance(205)
	for range 60000 {
		var data []byte
		for range c.below(30) {
			data = append(data, byte(pick(&c, 0, 0, 0, 1, 1, 2, 3, c.below(9), c.below(256), 128)))
		}
		reads(t, "PNL1"+string(data))
	}
	for _, b := range []string{"\x00", "\x01", "\x7F", "\x80", "\xFF"} {
		for many := range 300 {
			reads(t, "PNL1"+strings.Repeat(b, many))
		}
		if _, f := code.Decode("PNL1" + strings.Repeat(b, 1<<20)); f.Code == api.OK {
			t.Errorf("a megabyte of %q is read", b)
		}
	}
}
