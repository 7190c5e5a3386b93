package code

import "pianola/api"

// A count has at most so many bytes, an integer so many.
const (
	countBytes   = 3
	integerBytes = 10
)

// cursor goes through a program's bytes: at is the place of the next one. What is wrong with them is noted as the fault, and a panic.
type cursor struct {
	data  string
	at    int
	fault api.Fault
}

func (c *cursor) fail(code api.Errno, at int) {
	c.fault = api.Fault{Code: code, At: at}
	panic(c.fault)
}

// next is the next byte, and goes behind it.
func (c *cursor) next() byte {
	if c.at == len(c.data) {
		c.fail(api.ErrShort, c.at)
	}
	b := c.data[c.at]
	c.at++
	return b
}

// number is the next one, of at most so many bytes, and goes behind it.
func (c *cursor) number(most int) uint64 {
	first := c.at
	var n uint64
	for i := range most {
		b := c.next()
		n |= uint64(b&0x7F) << (7 * i)
		if b < 0x80 {
			if !ends(b, i) {
				break
			}
			return n
		}
	}
	c.fail(api.ErrNumber, first)
	return 0
}

// ends tells whether a byte may end a number that has so many bytes ahead of it: it is one that is needed, and the number fits.
func ends(b byte, ahead int) bool {
	if ahead == integerBytes-1 {
		return b == 1
	}
	return b > 0 || ahead == 0
}

func (c *cursor) count() int { return int(c.number(countBytes)) }

func (c *cursor) integer() int {
	n := c.number(integerBytes)
	return int(n>>1) ^ -int(n&1)
}
