package lex

// cursor goes through a text's bytes: at is the place of the next one.
type cursor struct {
	text string
	at   int
}

func (c *cursor) ended() bool { return c.at == len(c.text) }

// ahead is the byte n places on, or 0 where the text has none: a byte 0 belongs to no token, so that what asks for one need not ask for the text's end, too.
func (c *cursor) ahead(n int) byte {
	if n >= len(c.text)-c.at {
		return 0
	}
	return c.text[c.at+n]
}

// take is the next n bytes, which must be there, and goes behind them.
func (c *cursor) take(n int) string {
	from := c.at
	c.at += n
	return c.text[from:c.at]
}

// row is the longest row of bytes from here on that belong, and goes behind it.
func (c *cursor) row(belongs func(byte) bool) string {
	n := 0
	for c.at+n < len(c.text) && belongs(c.text[c.at+n]) {
		n++
	}
	return c.take(n)
}
