package wire

import (
	"strings"

	"spigot/api"
	"spigot/sum"
	"spigot/tag"
)

// trailerBytes is how many bytes each trailer has, whatever its sum is.
const trailerBytes = len("10=") + 3 + len(end)

// cursor goes through a text from left to right. Where something isn't right it gives up by a panic with the error's number.
type cursor struct {
	text string
	at   int
}

// message is the body of the message that is read.
func (c *cursor) message() string {
	c.beginning()
	body := c.take(c.length())
	ahead := c.text[:c.at]
	if c.take(trailerBytes) != trailer(ahead) {
		panic(api.ErrSum)
	}
	if _, _, e := tag.Fields(body); e != api.OK {
		panic(e)
	}
	// The body is cloned, so that it shares no memory with a text that may be far greater.
	return strings.Clone(body)
}

// beginning passes what each message begins with, byte by byte: so a wrong one is told even where the text ends too early behind it.
func (c *cursor) beginning() {
	for at := range len(begin) {
		if c.take(1) != begin[at:at+1] {
			panic(api.ErrBegin)
		}
	}
}

// length is the body's length, read up to the end behind its digits.
func (c *cursor) length() int {
	first, length := c.at, 0
	for {
		if c.take(1) == end && length > 0 {
			return length
		}
		// Each beginning of a length's digits is a length too: so the first byte that is wrong is met as it is read, however many there are.
		n, e := sum.ReadLength(c.text[first:c.at])
		if e != api.OK {
			panic(api.ErrLength)
		}
		length = n
	}
}

// take is so many bytes, which are passed.
func (c *cursor) take(n int) string {
	if n > len(c.text)-c.at {
		panic(api.ErrShort)
	}
	c.at += n
	return c.text[c.at-n : c.at]
}
