package code_test

import (
	"testing"

	"pianola/api"
	"pianola/code"
)

// encoded is Encode's answer of a sound program.
func encoded(t *testing.T, p api.Program) string {
	t.Helper()
	data, e := code.Encode(p)
	if e != api.OK {
		t.Fatalf("%v: %v", told(p), e)
	}
	return data
}

// TestThereAndBack is P20.6: Decode of Encode is the program.
func TestThereAndBack(t *testing.T) {
	c := chance(206)
	sound := 0
	for round := range 3000 {
		p := c.program()
		switch round {
		case 0:
			p = many()
		case 1:
			p = wide()
		}
		if code.Check(p) != api.OK {
			continue
		}
		q, f := code.Decode(encoded(t, p))
		if !same(p, q) || f != (api.Fault{}) {
			t.Fatalf("%v comes back as %v, %v", told(p), told(q), f)
		}
		sound++
	}
	if sound < 1500 {
		t.Error("too few sound ones:", sound)
	}
}

// TestBackAndThere is P20.6: whatever bytes Decode reads, Encode writes of the program just these.
func TestBackAndThere(t *testing.T) {
	c := chance(207)
	read, other := 0, 0
	for range 4000 {
		p := c.program()
		if code.Check(p) != api.OK {
			continue
		}
		right := encoded(t, p)
		for range 8 {
			data := c.change(right)
			q, f := code.Decode(data)
			if f != (api.Fault{}) {
				continue
			}
			if encoded(t, q) != data {
				t.Fatalf("%X comes back as %X", data, encoded(t, q))
			}
			if same(p, q) != (data == right) {
				t.Fatalf("%X and %X are both %v", data, right, told(p))
			}
			read++
			if data != right {
				other++
			}
		}
	}
	if read < 1000 || other < 1000 {
		t.Error("too few are read:", read, other)
	}
}

// TestBeginningsAndMore is P20.7: no beginning of the bytes but all is read, nor all with any byte behind them.
func TestBeginningsAndMore(t *testing.T) {
	c := chance(208)
	for round := range 400 {
		p := c.program()
		if round == 0 {
			p = wide()
		}
		if code.Check(p) != api.OK {
			continue
		}
		data := encoded(t, p)
		for at := range min(len(data), 3000) {
			if at < 4 {
				unread(t, data[:at], api.ErrMagic, 0)
			} else {
				unread(t, data[:at], api.ErrShort, at)
			}
		}
		unread(t, data[:len(data)-1], api.ErrShort, len(data)-1)
		for b := range 256 {
			unread(t, data+string([]byte{byte(b)}), api.ErrMore, len(data))
		}
		unread(t, data+data, api.ErrMore, len(data))
	}
	long := encoded(t, many())
	for _, at := range []int{4, 100, len(long) / 2, len(long) - 2, len(long) - 1} {
		unread(t, long[:at], api.ErrShort, at)
	}
	unread(t, long+"\x00", api.ErrMore, len(long))
}
