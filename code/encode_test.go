package code_test

import (
	"encoding/hex"
	"slices"
	"strings"
	"testing"

	"pianola/api"
)

// bytesAre fails, unless Encode writes these bytes of a program, and Decode reads it of them.
func bytesAre(t *testing.T, p api.Program, want string) {
	t.Helper()
	data, err := hex.DecodeString(strings.ReplaceAll(want, " ", ""))
	if err != nil {
		t.Fatal(err)
	}
	encodeIs(t, p, string(data), api.OK)
	decodeIs(t, string(data), p, api.Fault{})
}

// TestEncodeExample is P20.3: the chapter's example.
func TestEncodeExample(t *testing.T) {
	bytesAre(t, small(), "504E4C31 02 01 00 01 01 0A 02 0A 01 00 05 010003 050000 070001 020001 000000")
}

// TestBytes is P20.3: bytes of programs, written by hand.
func TestBytes(t *testing.T) {
	bytesAre(t, api.Program{Ops: ops()}, "504E4C31 00 00 00 00 00 00 01 000000")
	bytesAre(t, api.Program{Memory: 1024, Counters: 17, Ins: 16, Outs: 15, Ops: ops()}, "504E4C31 8008 11 10 0F 00 00 01 000000")
	bytesAre(t, wide(), "504E4C31 BC05 03 02 02 03"+
		" 01 03 02 FFFFFFFFFFFFFFFFFF01 FEFFFFFFFFFFFFFFFF01 07 00 02 01 8001"+
		" 03 00 AC02 02 0E 0D AC02 9003 04 02 00 01 FEFFFFFFFFFFFFFFFF01 BC05 00 00"+
		" 0C 030140 040102 050100 010205 010002 060001 020005 050200 020204 070101 030203 000000")
}

// TestCounts is P20.3: counts of one, two and three bytes.
func TestCounts(t *testing.T) {
	for _, c := range []struct {
		n    int
		form string
	}{{0, "00"}, {1, "01"}, {127, "7F"}, {128, "8001"}, {129, "8101"}, {255, "FF01"}, {256, "8002"}, {1023, "FF07"}, {1024, "8008"}} {
		bytesAre(t, api.Program{Memory: c.n, Ops: ops()}, "504E4C31"+c.form+"00 00 00 00 00 01 000000")
		bytesAre(t, api.Program{Memory: 1024, Lines: list(line(c.n, 0)), Ops: ops()}, "504E4C31 8008 00 00 00 00 01"+c.form+"00 00 01 000000")
		bytesAre(t, api.Program{Memory: 1024, Lines: list(line(0, c.n)), Ops: ops()}, "504E4C31 8008 00 00 00 00 01 00"+c.form+"00 01 000000")
		tokens := strings.Repeat("06", c.n)
		bytesAre(t, api.Program{Memory: 1024, Lines: list(line(0, 1024, slices.Repeat(list(3), c.n)...)), Ops: ops()}, "504E4C31 8008 00 00 00 00 01 00 8008"+c.form+tokens+"01 000000")
	}
	for _, c := range []struct {
		place int
		many  string
		form  string
	}{{127, "8201", "8001"}, {16382, "8180 01", "FF7F"}, {16383, "828001", "808001"}, {16384, "838001", "818001"}, {131068, "FFFF07", "FDFF07"}} {
		p := api.Program{Counters: 1, Parts: list(part(api.Sum)), Ops: ops(slices.Repeat(list(call(0)), c.place), loop(c.place, 0, 1))}
		bytesAre(t, p, "504E4C31 00 01 00 00 01 08 00 00"+c.many+strings.Repeat("050000", c.place)+"010001 0200"+c.form+"000000")
	}
}

// TestIntegers is P20.3: integers of one byte to ten.
func TestIntegers(t *testing.T) {
	for _, c := range []struct {
		n    int
		form string
	}{
		{0, "00"}, {-1, "01"}, {1, "02"}, {-2, "03"}, {2, "04"}, {63, "7E"}, {-64, "7F"}, {64, "8001"}, {-65, "8101"}, {8191, "FE7F"}, {-8192, "FF7F"}, {8192, "808001"},
		{1<<27 - 1, "FEFFFF7F"}, {1 << 27, "8080808001"}, {1<<62 - 1, "FEFFFFFFFFFFFFFF7F"}, {-1 << 62, "FFFFFFFFFFFFFFFF7F"}, {1 << 62, "80808080808080808001"}, {-1<<62 - 1, "81808080808080808001"},
		{greatest - 1, "FCFFFFFFFFFFFFFFFF01"}, {greatest, "FEFFFFFFFFFFFFFFFF01"}, {least + 1, "FDFFFFFFFFFFFFFFFF01"}, {least, "FFFFFFFFFFFFFFFFFF01"},
	} {
		bytesAre(t, api.Program{Parts: list(part(api.Tick, c.n, -3)), Ops: ops()}, "504E4C31 00 00 00 00 01 0A 02"+c.form+"05 00 01 000000")
		bytesAre(t, api.Program{Memory: 2, Lines: list(line(0, 2, 7, c.n)), Ops: ops()}, "504E4C31 02 00 00 00 00 01 00 02 02 0E"+c.form+"01 000000")
	}
	for shift := range 64 {
		for _, by := range []int{-1, 0, 1} {
			sound(t, api.Program{Parts: list(part(api.Filter, 1<<shift+by, -1<<shift+by)), Ops: ops()}, 1)
		}
	}
}

// TestKindsAndTags is P20.3: the bytes of each kind, and of each tag.
func TestKindsAndTags(t *testing.T) {
	for tag, one := range []api.Part{part(api.Filter, 1), part(api.Up, 2), part(api.Down, 3), part(api.Weave, 4, 5), part(api.Unweave, 6, 7), part(api.Add, 8), part(api.Quot), part(api.Sum), part(api.Copy, 9), part(api.Tick, -1, 0), part(api.Drop, 10)} {
		form := hex.EncodeToString([]byte(string([]byte{byte(tag + 1)}) + integerForms(one.Params)))
		bytesAre(t, api.Program{Parts: list(one), Ops: ops()}, "504E4C31 00 00 00 00 01"+form+"00 01 000000")
	}
	p := wide()
	for kind := api.OpTake; kind <= api.OpWrite; kind++ {
		b := min(1, table(p)[kind].high)
		p.Ops = ops(list(op(kind, 1, b)))
		form := hex.EncodeToString([]byte{2, byte(kind), 1, byte(b), 0, 0, 0})
		bytesAre(t, p, strings.TrimSuffix(hex.EncodeToString([]byte(bytesOf(changed(p, func(p *api.Program) { p.Ops = nil })))), "00")+form)
	}
}
