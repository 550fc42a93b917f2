package wire_test

import (
	"bytes"
	"math"
	"testing"

	"fluxion/api"
	"fluxion/wire"
)

// roomy returns bytes with spare capacity behind them, so that an append to an argument shows.
func roomy(b []byte) []byte {
	r := make([]byte, len(b), len(b)+300)
	copy(r, b)
	for i := len(b); i < cap(r); i++ {
		whole(r)[i] = 0xA5
	}
	return r
}

func whole(b []byte) []byte { return b[:cap(b)] }

func fill(b []byte) {
	for i := range whole(b) {
		whole(b)[i] = ^whole(b)[i]
	}
}

// puts are all calls that return bytes for bytes.
func puts(block []byte) []func(b []byte) []byte {
	list := []func(b []byte) []byte{func(b []byte) []byte { return wire.PutBlock(b, block) }}
	for _, n := range []uint64{0, 1, 127, 128, 1 << 40, math.MaxUint64} {
		list = append(list,
			func(b []byte) []byte { return wire.PutUvarint(b, n) },
			func(b []byte) []byte { return wire.PutZigzag(b, int64(n)) })
	}
	return list
}

func TestPutArgumentsStay(t *testing.T) {
	for _, front := range fronts() {
		for _, inner := range fronts() {
			b, block := roomy(front), roomy(inner)
			beforeB, beforeBlock := bytes.Clone(whole(b)), bytes.Clone(whole(block))
			for _, put := range puts(block) {
				result := put(b)
				checkBytes(t, "given bytes", whole(b), beforeB)
				checkBytes(t, "given block", whole(block), beforeBlock)
				want := bytes.Clone(result)
				fill(result)
				checkBytes(t, "given bytes", whole(b), beforeB)
				checkBytes(t, "given block", whole(block), beforeBlock)
				checkBytes(t, "a second call", put(b), want)
			}
		}
	}
}

func TestPutResultsAreNewMemory(t *testing.T) {
	for _, front := range fronts() {
		for _, inner := range fronts() {
			b, block := roomy(front), roomy(inner)
			for _, put := range puts(block) {
				first, second := put(b), put(b)
				want := bytes.Clone(first)
				fill(second)
				fill(b)
				fill(block)
				checkBytes(t, "a result", first, want)
				fill(b)
				fill(block)
			}
		}
	}
}

// One slice may be both arguments, or they may overlap.
func TestOneSliceTwice(t *testing.T) {
	b := []byte("abcdef")
	checkBytes(t, "PutBlock of itself", wire.PutBlock(b, b), []byte("abcdef\x06abcdef"))
	checkBytes(t, "PutBlock of its end", wire.PutBlock(b[:2], b[2:]), []byte("ab\x04cdef"))
	checkBytes(t, "PutBlock of its front", wire.PutBlock(b[2:], b[:3]), []byte("cdef\x03abc"))
	checkBytes(t, "the slice", b, []byte("abcdef"))
}

func TestNewTakesACopy(t *testing.T) {
	b := roomy([]byte{0xAC, 2, 2, 'x', 'y', 5, 'z'})
	before := bytes.Clone(whole(b))
	c := wire.New(b)
	fill(b)
	if n, e := c.Uvarint(); n != 300 || e != api.OK {
		t.Errorf("Uvarint: %d, error %d", n, e)
	}
	if l, e := c.Block(2); string(l) != "xy" || e != api.OK {
		t.Errorf("Block: %q, error %d", l, e)
	}
	fill(b)
	if n, e := c.Zigzag(); n != -3 || e != api.OK {
		t.Errorf("Zigzag: %d, error %d", n, e)
	}
	if l, e := c.Take(1); string(l) != "z" || e != api.OK {
		t.Errorf("Take: %q, error %d", l, e)
	}
	checkPlace(t, c, 7, 0)
	checkBytes(t, "given bytes", whole(b), before)
}

func TestReadBytesAreNewMemory(t *testing.T) {
	b := []byte{2, 'a', 'b', 2, 'c', 'd', 0xAC, 2}
	c, d := wire.New(b), wire.New(b)
	first, _ := c.Take(0)
	fill(first)
	first, _ = c.Block(2)
	fill(first)
	second, _ := c.Take(2)
	fill(second)
	checkBytes(t, "what was read before", first, []byte{^byte('a'), ^byte('b')})
	if x, e := c.Byte(); x != 'd' || e != api.OK {
		t.Errorf("Byte: %d, error %d", x, e)
	}
	if n, e := c.Uvarint(); n != 300 || e != api.OK {
		t.Errorf("Uvarint: %d, error %d", n, e)
	}
	if l, e := d.Take(8); !bytes.Equal(l, []byte{2, 'a', 'b', 2, 'c', 'd', 0xAC, 2}) || e != api.OK {
		t.Errorf("Take: %x, error %d", l, e)
	}
	checkBytes(t, "given bytes", b, []byte{2, 'a', 'b', 2, 'c', 'd', 0xAC, 2})
}

// A failed read must not be seen in any later one.
func TestFailedReadsLeaveNothing(t *testing.T) {
	for _, b := range someBytes(2000) {
		c, d := wire.New(b), wire.New(b)
		for range len(b) {
			failEachRead(c)
			x, e := c.Byte()
			y, f := d.Byte()
			if x != y || e != f || c.At() != d.At() {
				t.Fatalf("%x: byte %d, error %d, at %d; want %d, %d, %d", b, x, e, c.At(), y, f, d.At())
			}
		}
		checkPlace(t, c, len(b), 0)
	}
}

// failEachRead tries on a copy of the cursor whether there is a number, to read none that is.
func failEachRead(c *wire.Cursor) {
	c.Take(-1)
	c.Take(c.Left() + 1)
	try := *c
	n, e := try.Uvarint()
	if e != api.OK {
		c.Uvarint()
		c.Zigzag()
	}
	if e != api.OK || n > 0 {
		c.Block(0)
	}
	if n > uint64(c.Left()) {
		c.Block(math.MaxInt)
	}
}

// A cursor that is a copy of another one goes its own way: the state is all in the value.
func TestCopiedCursor(t *testing.T) {
	c := wire.New([]byte{1, 2, 3, 4})
	c.Byte()
	d := *c
	d.Take(2)
	checkPlace(t, &d, 3, 1)
	checkPlace(t, c, 1, 3)
	c.Take(3)
	checkPlace(t, c, 4, 0)
	if x, e := d.Byte(); x != 4 || e != api.OK {
		t.Errorf("Byte: %d, error %d", x, e)
	}
}

// What a cursor gave must not be its memory, not even where it doesn't come by again: a copy does.
func TestReadBytesAreNotOfTheCursor(t *testing.T) {
	c := wire.New([]byte{2, 'a', 'b'})
	d := *c
	taken, _ := d.Take(3)
	fill(taken)
	d = *c
	block, _ := d.Block(2)
	fill(block)
	if b, e := c.Block(2); string(b) != "ab" || e != api.OK {
		t.Errorf("Block: %q, error %d", b, e)
	}
}

// P0.7

func TestAllCallsEnd(t *testing.T) {
	for _, b := range append(someBytes(300), nil, bytes.Repeat([]byte{0xFF}, 1000), make([]byte, 1000)) {
		for _, n := range []int{math.MinInt, math.MinInt + 1, -1, 0, 1, 5, 1000, math.MaxInt - 1, math.MaxInt} {
			c := wire.New(b)
			for range len(b) {
				c.Take(n)
				c.Block(n)
				c.Uvarint()
				c.Zigzag()
				c.Byte()
				if c.At() < 0 || c.Left() < 0 || c.At()+c.Left() != len(b) || (c.End() == api.OK) != (c.Left() == 0) {
					t.Fatalf("%x: at %d, left %d, end %d", b, c.At(), c.Left(), c.End())
				}
			}
			checkPlace(t, c, len(b), 0)
		}
	}
}

// A block whose number is far greater than its bytes must be refused without room for it.
func TestGreatBlocksAreRefusedAtOnce(t *testing.T) {
	for _, n := range []uint64{1 << 31, 1 << 40, math.MaxInt64 - 1, math.MaxInt64} {
		c := wire.New(append(wire.PutUvarint(nil, n), 'x'))
		if b, e := c.Block(math.MaxInt); len(b) != 0 || e != api.ErrShort {
			t.Errorf("Block of %d: %x, error %d", n, b, e)
		}
	}
}

func TestLongBlocks(t *testing.T) {
	block := bytes.Repeat([]byte("0123456789"), 3_000_000)
	c := wire.New(wire.PutBlock([]byte{1}, block))
	c.Byte()
	if b, e := c.Block(len(block) - 1); len(b) != 0 || e != api.ErrLimit {
		t.Errorf("Block, most one less: %d bytes, error %d", len(b), e)
	}
	if b, e := c.Block(len(block)); !bytes.Equal(b, block) || e != api.OK {
		t.Errorf("Block: %d bytes, error %d", len(b), e)
	}
	checkPlace(t, c, 1+4+len(block), 0)
}
