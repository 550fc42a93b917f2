package wire_test

import (
	"bytes"
	"math"
	"testing"

	"fluxion/api"
	"fluxion/wire"
)

var numbers = []struct {
	n uint64
	b []byte
}{
	{0, []byte{0}},
	{1, []byte{1}},
	{2, []byte{2}},
	{126, []byte{0x7E}},
	{127, []byte{0x7F}},
	{128, []byte{0x80, 1}},
	{129, []byte{0x81, 1}},
	{255, []byte{0xFF, 1}},
	{256, []byte{0x80, 2}},
	{300, []byte{0xAC, 2}},
	{1<<14 - 1, []byte{0xFF, 0x7F}},
	{1 << 14, []byte{0x80, 0x80, 1}},
	{1<<21 - 1, []byte{0xFF, 0xFF, 0x7F}},
	{1 << 21, []byte{0x80, 0x80, 0x80, 1}},
	{1 << 32, []byte{0x80, 0x80, 0x80, 0x80, 0x10}},
	{0x0123456789ABCDEF, []byte{0xEF, 0x9B, 0xAF, 0xCD, 0xF8, 0xAC, 0xD1, 0x91, 1}},
	{math.MaxInt64, []byte{0xFF, 0xFF, 0xFF, 0xFF, 0xFF, 0xFF, 0xFF, 0xFF, 0x7F}},
	{1 << 63, []byte{0x80, 0x80, 0x80, 0x80, 0x80, 0x80, 0x80, 0x80, 0x80, 1}},
	{math.MaxUint64 - 1, []byte{0xFE, 0xFF, 0xFF, 0xFF, 0xFF, 0xFF, 0xFF, 0xFF, 0xFF, 1}},
	{math.MaxUint64, []byte{0xFF, 0xFF, 0xFF, 0xFF, 0xFF, 0xFF, 0xFF, 0xFF, 0xFF, 1}},
}

var signed = []struct {
	n int64
	b []byte
}{
	{0, []byte{0}},
	{-1, []byte{1}},
	{1, []byte{2}},
	{-2, []byte{3}},
	{2, []byte{4}},
	{-3, []byte{5}},
	{63, []byte{0x7E}},
	{-64, []byte{0x7F}},
	{64, []byte{0x80, 1}},
	{-65, []byte{0x81, 1}},
	{150, []byte{0xAC, 2}},
	{math.MaxInt32, []byte{0xFE, 0xFF, 0xFF, 0xFF, 0xF}},
	{math.MinInt32, []byte{0xFF, 0xFF, 0xFF, 0xFF, 0xF}},
	{math.MaxInt64 - 1, []byte{0xFC, 0xFF, 0xFF, 0xFF, 0xFF, 0xFF, 0xFF, 0xFF, 0xFF, 1}},
	{math.MinInt64 + 1, []byte{0xFD, 0xFF, 0xFF, 0xFF, 0xFF, 0xFF, 0xFF, 0xFF, 0xFF, 1}},
	{math.MaxInt64, []byte{0xFE, 0xFF, 0xFF, 0xFF, 0xFF, 0xFF, 0xFF, 0xFF, 0xFF, 1}},
	{math.MinInt64, []byte{0xFF, 0xFF, 0xFF, 0xFF, 0xFF, 0xFF, 0xFF, 0xFF, 0xFF, 1}},
}

// fronts are what stands before an encoding: nothing, or what looks like the start of a number.
func fronts() [][]byte {
	return [][]byte{nil, {}, {0}, {9}, {0xFF}, {0x80, 0x80, 0x80}, bytes.Repeat([]byte{7}, 1000)}
}

func join(parts ...[]byte) []byte { return bytes.Join(parts, nil) }

// ten returns nine bytes that are all 128 or more, and a tenth one.
func ten(fill, last byte) []byte { return append(bytes.Repeat([]byte{fill}, 9), last) }

func checkBytes(t *testing.T, call string, got, want []byte) {
	t.Helper()
	if !bytes.Equal(got, want) {
		t.Errorf("%s: %x, want %x", call, got, want)
	}
}

// checkPlace looks at all that a cursor tells of its place.
func checkPlace(t *testing.T, c *wire.Cursor, at, left int) {
	t.Helper()
	end := api.OK
	if left > 0 {
		end = api.ErrTrail
	}
	if c.At() != at || c.Left() != left || c.End() != end {
		t.Errorf("at %d, left %d, end %d; want %d, %d, %d", c.At(), c.Left(), c.End(), at, left, end)
	}
}

// past returns a cursor over some bytes, that stands before the rest.
func past(t *testing.T, front, rest []byte) *wire.Cursor {
	t.Helper()
	c := wire.New(join(front, rest))
	if b, e := c.Take(len(front)); !bytes.Equal(b, front) || e != api.OK {
		t.Fatalf("Take %d: %x, error %d", len(front), b, e)
	}
	return c
}

// P5.1

func TestPutUvarint(t *testing.T) {
	for _, x := range numbers {
		for _, front := range fronts() {
			checkBytes(t, "PutUvarint", wire.PutUvarint(front, x.n), join(front, x.b))
		}
	}
}

func TestPutZigzag(t *testing.T) {
	for _, x := range signed {
		for _, front := range fronts() {
			checkBytes(t, "PutZigzag", wire.PutZigzag(front, x.n), join(front, x.b))
		}
	}
}

func TestPutBlock(t *testing.T) {
	for _, x := range []struct {
		size  int
		first []byte
	}{
		{0, []byte{0}}, {1, []byte{1}}, {2, []byte{2}}, {127, []byte{0x7F}}, {128, []byte{0x80, 1}}, {300, []byte{0xAC, 2}}, {1 << 14, []byte{0x80, 0x80, 1}}, {100000, []byte{0xA0, 0x8D, 6}},
	} {
		for _, fill := range []byte{0, 'x', 0xFF} {
			block := bytes.Repeat([]byte{fill}, x.size)
			for _, front := range fronts() {
				checkBytes(t, "PutBlock", wire.PutBlock(front, block), join(front, x.first, block))
			}
		}
	}
	checkBytes(t, "PutBlock", wire.PutBlock(nil, nil), []byte{0})
	checkBytes(t, "PutBlock", wire.PutBlock([]byte{1}, []byte("xy")), []byte{1, 2, 'x', 'y'})
}

// P5.2

func TestByte(t *testing.T) {
	all := make([]byte, 256)
	for i := range all {
		all[i] = byte(i)
	}
	c := wire.New(all)
	for i, want := range all {
		checkPlace(t, c, i, len(all)-i)
		if b, e := c.Byte(); b != want || e != api.OK {
			t.Errorf("Byte: %d, error %d, want %d", b, e, want)
		}
	}
	for range 3 {
		if b, e := c.Byte(); b != 0 || e != api.ErrShort {
			t.Errorf("Byte at the end: %d, error %d", b, e)
		}
		checkPlace(t, c, len(all), 0)
	}
}

func TestUvarint(t *testing.T) {
	for _, x := range numbers {
		for _, front := range fronts() {
			for _, behind := range fronts() {
				c := past(t, front, join(x.b, behind))
				if n, e := c.Uvarint(); n != x.n || e != api.OK {
					t.Errorf("Uvarint %x: %d, error %d, want %d", x.b, n, e, x.n)
				}
				checkPlace(t, c, len(front)+len(x.b), len(behind))
			}
		}
	}
}

func TestZigzag(t *testing.T) {
	for _, x := range signed {
		for _, front := range fronts() {
			for _, behind := range fronts() {
				c := past(t, front, join(x.b, behind))
				if n, e := c.Zigzag(); n != x.n || e != api.OK {
					t.Errorf("Zigzag %x: %d, error %d, want %d", x.b, n, e, x.n)
				}
				checkPlace(t, c, len(front)+len(x.b), len(behind))
			}
		}
	}
}

// refuse asks for the error of a number from all the calls that begin with one, at the front and elsewhere.
func refuse(t *testing.T, b []byte, want api.Errno) {
	t.Helper()
	for _, front := range fronts() {
		c := past(t, front, b)
		if n, e := c.Uvarint(); n != 0 || e != want {
			t.Errorf("Uvarint %x: %d, error %d, want error %d", b, n, e, want)
		}
		checkPlace(t, c, len(front), len(b))
		if n, e := c.Zigzag(); n != 0 || e != want {
			t.Errorf("Zigzag %x: %d, error %d, want error %d", b, n, e, want)
		}
		checkPlace(t, c, len(front), len(b))
		for _, most := range []int{math.MinInt, -1, 0, 1, 100, math.MaxInt} {
			if l, e := c.Block(most); len(l) != 0 || e != want {
				t.Errorf("Block %x, most %d: %x, error %d, want error %d", b, most, l, e, want)
			}
			checkPlace(t, c, len(front), len(b))
		}
	}
}

func TestNumbersThatEnd(t *testing.T) {
	refuse(t, nil, api.ErrShort)
	for _, fill := range []byte{0x80, 0x81, 0xAC, 0xFF} {
		for n := 1; n < 10; n++ {
			refuse(t, bytes.Repeat([]byte{fill}, n), api.ErrShort)
		}
	}
	for _, x := range numbers {
		for n := range x.b {
			refuse(t, x.b[:n], api.ErrShort)
		}
	}
}

func TestNumbersOfTenMarkedBytes(t *testing.T) {
	for _, fill := range []byte{0x80, 0x81, 0xFF} {
		for _, last := range []byte{0x80, 0x81, 0xFE, 0xFF} {
			for _, behind := range [][]byte{nil, {0}, {1}, {0x80}, {0xFF, 0xFF, 1}, bytes.Repeat([]byte{0x80}, 100)} {
				refuse(t, join(ten(fill, last), behind), api.ErrMinimal)
			}
		}
	}
}

func TestNumbersWithALastZero(t *testing.T) {
	for _, fill := range []byte{0x80, 0x81, 0xFF} {
		for n := 1; n < 10; n++ {
			for _, behind := range fronts() {
				refuse(t, join(bytes.Repeat([]byte{fill}, n), []byte{0}, behind), api.ErrMinimal)
			}
		}
	}
	// Zero itself has a last byte that is 0, but no other one.
	c := wire.New([]byte{0, 0, 0})
	for i := range 3 {
		if n, e := c.Uvarint(); n != 0 || e != api.OK {
			t.Errorf("Uvarint: %d, error %d", n, e)
		}
		checkPlace(t, c, i+1, 2-i)
	}
}

func TestTenthByte(t *testing.T) {
	for last := range 256 {
		for _, fill := range []byte{0x80, 0xFF} {
			b := ten(fill, byte(last))
			if last != 1 {
				refuse(t, b, api.ErrMinimal)
				refuse(t, append(b, 1, 2, 3), api.ErrMinimal)
				continue
			}
			want := map[byte]uint64{0x80: 1 << 63, 0xFF: math.MaxUint64}[fill]
			if n, e := wire.New(b).Uvarint(); n != want || e != api.OK {
				t.Errorf("Uvarint %x: %d, error %d, want %d", b, n, e, want)
			}
		}
	}
	// A greater byte than 1 is right everywhere else.
	if n, e := wire.New(append(bytes.Repeat([]byte{0x80}, 8), 2)).Uvarint(); n != 1<<57 || e != api.OK {
		t.Errorf("Uvarint of nine bytes: %d, error %d", n, e)
	}
}

func TestTake(t *testing.T) {
	all := []byte{5, 6, 0xFF, 0, 8}
	for at := range len(all) + 1 {
		for n := range len(all) - at + 1 {
			c := past(t, all[:at], all[at:])
			b, e := c.Take(n)
			if e != api.OK {
				t.Errorf("Take %d: error %d", n, e)
			}
			checkBytes(t, "Take", b, all[at:at+n])
			checkPlace(t, c, at+n, len(all)-at-n)
		}
	}
}

func TestTakeErrors(t *testing.T) {
	for _, left := range []int{0, 1, 5} {
		for _, front := range fronts() {
			c := past(t, front, make([]byte, left))
			for _, x := range []struct {
				n int
				e api.Errno
			}{
				{-1, api.ErrArg}, {-left - 1, api.ErrArg}, {-len(front) - 1, api.ErrArg}, {math.MinInt, api.ErrArg},
				{left + 1, api.ErrShort}, {left + len(front) + 1, api.ErrShort}, {math.MaxInt32, api.ErrShort}, {math.MaxInt, api.ErrShort}, {math.MaxInt - len(front), api.ErrShort},
			} {
				if b, e := c.Take(x.n); len(b) != 0 || e != x.e {
					t.Errorf("Take %d of %d: %x, error %d, want error %d", x.n, left, b, e, x.e)
				}
				checkPlace(t, c, len(front), left)
			}
		}
	}
}

func TestBlock(t *testing.T) {
	for _, size := range []int{0, 1, 2, 127, 128, 300, 1 << 14, 100000} {
		block := bytes.Repeat([]byte{0xFE}, size)
		for _, most := range []int{size, size + 1, 2*size + 1, math.MaxInt32, math.MaxInt} {
			for _, front := range fronts() {
				first := wire.PutUvarint(nil, uint64(size))
				c := past(t, front, join(first, block, []byte("behind")))
				b, e := c.Block(most)
				if e != api.OK || !bytes.Equal(b, block) {
					t.Errorf("Block of %d, most %d: %d bytes, error %d", size, most, len(b), e)
				}
				checkPlace(t, c, len(front)+len(first)+size, 6)
			}
		}
	}
}

func TestNegativeMostIsNone(t *testing.T) {
	for _, most := range []int{0, -1, -4, math.MinInt} {
		c := wire.New([]byte{0, 1, 'x'})
		if b, e := c.Block(most); len(b) != 0 || e != api.OK {
			t.Errorf("Block of nothing, most %d: %x, error %d", most, b, e)
		}
		checkPlace(t, c, 1, 2)
		if b, e := c.Block(most); len(b) != 0 || e != api.ErrLimit {
			t.Errorf("Block of one byte, most %d: %x, error %d", most, b, e)
		}
		checkPlace(t, c, 1, 2)
	}
}

func TestBlockErrors(t *testing.T) {
	greatest := ten(0xFF, 1)
	for _, x := range []struct {
		b    []byte
		most int
		e    api.Errno
	}{
		{[]byte{3, 'a', 'b', 'c'}, 2, api.ErrLimit},
		{[]byte{3, 'a', 'b', 'c'}, 0, api.ErrLimit},
		{[]byte{3, 'a', 'b', 'c'}, -3, api.ErrLimit},
		// A block that is too long and ends early is too long.
		{[]byte{3}, 2, api.ErrLimit},
		{[]byte{3, 'a'}, 2, api.ErrLimit},
		{[]byte{3}, 3, api.ErrShort},
		{[]byte{3, 'a', 'b'}, 3, api.ErrShort},
		{[]byte{1}, 1, api.ErrShort},
		{[]byte{1}, math.MaxInt, api.ErrShort},
		{[]byte{0x80, 1, 'a'}, 127, api.ErrLimit},
		{[]byte{0x80, 1, 'a'}, 128, api.ErrShort},
		{greatest, 0, api.ErrLimit},
		{greatest, -1, api.ErrLimit},
		{greatest, math.MinInt, api.ErrLimit},
		{greatest, math.MaxInt, api.ErrLimit},
		{ten(0x80, 1), math.MaxInt, api.ErrLimit},
		{wire.PutUvarint(nil, math.MaxInt), math.MaxInt - 1, api.ErrLimit},
		{wire.PutUvarint(nil, math.MaxInt), math.MaxInt, api.ErrShort},
		{wire.PutUvarint(nil, 1<<32), 0, api.ErrLimit},
		{wire.PutUvarint(nil, 1<<32+1), 1, api.ErrLimit},
		{wire.PutUvarint(nil, 1<<63+1), 1, api.ErrLimit},
		// Its number is read before it is held against most.
		{[]byte{0x83, 0, 'a', 'b', 'c'}, 0, api.ErrMinimal},
		{[]byte{0xFF}, 0, api.ErrShort},
		{nil, 0, api.ErrShort},
	} {
		for _, front := range fronts() {
			c := past(t, front, x.b)
			if b, e := c.Block(x.most); len(b) != 0 || e != x.e {
				t.Errorf("Block %x, most %d: %x, error %d, want error %d", x.b, x.most, b, e, x.e)
			}
			checkPlace(t, c, len(front), len(x.b))
		}
	}
}

// P5.3

func TestPlaces(t *testing.T) {
	b := []byte{3, 'a', 'b', 'c', 0xAC, 2, 5, 'x'}
	c := wire.New(b)
	checkPlace(t, c, 0, 8)
	c.Block(3)
	checkPlace(t, c, 4, 4)
	c.Block(1)
	checkPlace(t, c, 4, 4)
	c.Uvarint()
	checkPlace(t, c, 6, 2)
	c.Take(3)
	checkPlace(t, c, 6, 2)
	c.Zigzag()
	checkPlace(t, c, 7, 1)
	c.Take(0)
	checkPlace(t, c, 7, 1)
	c.Byte()
	checkPlace(t, c, 8, 0)
	c.Byte()
	checkPlace(t, c, 8, 0)
}

// checkNothing asks for the errors of a cursor over no bytes.
func checkNothing(t *testing.T, c *wire.Cursor) {
	t.Helper()
	checkPlace(t, c, 0, 0)
	if x, e := c.Byte(); x != 0 || e != api.ErrShort {
		t.Errorf("Byte: %d, error %d", x, e)
	}
	if n, e := c.Uvarint(); n != 0 || e != api.ErrShort {
		t.Errorf("Uvarint: %d, error %d", n, e)
	}
	if n, e := c.Zigzag(); n != 0 || e != api.ErrShort {
		t.Errorf("Zigzag: %d, error %d", n, e)
	}
	for n, want := range map[int]api.Errno{-1: api.ErrArg, 0: api.OK, 1: api.ErrShort} {
		if b, e := c.Take(n); len(b) != 0 || e != want {
			t.Errorf("Take %d: %x, error %d, want error %d", n, b, e, want)
		}
		if b, e := c.Block(n); len(b) != 0 || e != api.ErrShort {
			t.Errorf("Block %d: %x, error %d", n, b, e)
		}
	}
	checkPlace(t, c, 0, 0)
}

func TestCursorWithNoBytes(t *testing.T) {
	checkNothing(t, wire.New(nil))
	checkNothing(t, wire.New([]byte{}))
	checkNothing(t, &wire.Cursor{})
	var zero wire.Cursor
	checkNothing(t, &zero)
}

func TestNilCursor(t *testing.T) {
	var c *wire.Cursor
	if c.At() != 0 || c.Left() != 0 || c.End() != api.ErrNil {
		t.Errorf("at %d, left %d, end %d", c.At(), c.Left(), c.End())
	}
	if x, e := c.Byte(); x != 0 || e != api.ErrNil {
		t.Errorf("Byte: %d, error %d", x, e)
	}
	if n, e := c.Uvarint(); n != 0 || e != api.ErrNil {
		t.Errorf("Uvarint: %d, error %d", n, e)
	}
	if n, e := c.Zigzag(); n != 0 || e != api.ErrNil {
		t.Errorf("Zigzag: %d, error %d", n, e)
	}
	for _, n := range []int{math.MinInt, -1, 0, 1, math.MaxInt} {
		if b, e := c.Take(n); len(b) != 0 || e != api.ErrNil {
			t.Errorf("Take %d: %x, error %d", n, b, e)
		}
		if b, e := c.Block(n); len(b) != 0 || e != api.ErrNil {
			t.Errorf("Block %d: %x, error %d", n, b, e)
		}
	}
}

func TestExamples(t *testing.T) {
	checkBytes(t, "PutUvarint 300", wire.PutUvarint(nil, 300), []byte{0xAC, 0x02})
	checkBytes(t, "PutZigzag -3", wire.PutZigzag(nil, -3), []byte{0x05})
	refuse(t, []byte{0x80, 0x00}, api.ErrMinimal)
	refuse(t, []byte{0x80}, api.ErrShort)
	refuse(t, bytes.Repeat([]byte{0x80}, 10), api.ErrMinimal)
}
