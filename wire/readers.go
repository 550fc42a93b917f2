package wire

import (
	"bytes"

	"fluxion/api"
)

// guarded is around every reader, so that none of them has to think of a nil cursor, or of the
// way back after it has read a part of what then fails.
func guarded[R any](c *Cursor, read func() (R, api.Errno)) (r R, e api.Errno) {
	if c == nil {
		return r, api.ErrNil
	}
	start := c.at
	defer func() {
		if e != api.OK {
			c.at = start
		}
	}()
	return read()
}

type integer interface{ int | int64 | uint64 }

// converted may fail where the reader doesn't, because not every number is one of the other type.
func converted[From, To integer](read func() (From, api.Errno), convert func(From) (To, api.Errno)) func() (To, api.Errno) {
	return func() (To, api.Errno) {
		n, e := read()
		if e != api.OK {
			return 0, e
		}
		return convert(n)
	}
}

func (c *Cursor) next() (byte, api.Errno) {
	if c.Left() == 0 {
		return 0, api.ErrShort
	}
	b := c.all[c.at]
	c.at++
	return b, api.OK
}

func (c *Cursor) number() (uint64, api.Errno) {
	n := uint64(0)
visit:
	for i := range longest {
		b, e := c.next()
		switch {
		case e != api.OK:
			return 0, e
		case b >= more:
			n |= uint64(b-more) << (bitsOfByte * i)
			continue visit
		case b == 0 && i > 0, b > 1 && i == longest-1:
			break visit
		}
		return n | uint64(b)<<(bitsOfByte*i), api.OK
	}
	return 0, api.ErrMinimal
}

func (c *Cursor) take(n int) ([]byte, api.Errno) {
	if n < 0 {
		return nil, api.ErrArg
	}
	if n > c.Left() {
		return nil, api.ErrShort
	}
	start := c.at
	c.at += n
	return bytes.Clone(c.all[start:c.at]), api.OK
}

func (c *Cursor) block(most int) ([]byte, api.Errno) {
	n, e := converted(c.number, sizeWithin(most))()
	if e != api.OK {
		return nil, e
	}
	return c.take(n)
}

// sizeWithin compares before it converts, because a number of 64 bits may not be an int.
func sizeWithin(most int) func(uint64) (int, api.Errno) {
	return func(n uint64) (int, api.Errno) {
		if n > uint64(max(most, 0)) {
			return 0, api.ErrLimit
		}
		return int(n), api.OK
	}
}
