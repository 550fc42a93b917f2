package wire_test

import (
	"bytes"
	"encoding/binary"
	"math"
	"math/rand/v2"
	"testing"

	"fluxion/api"
	"fluxion/wire"
)

// someNumbers returns numbers of all lengths in bits; they are the same in every run.
func someNumbers(n int) []uint64 {
	r := rand.New(rand.NewPCG(5, uint64(n)))
	list := []uint64{0, math.MaxUint64}
	for bits := range 64 {
		list = append(list, 1<<bits, 1<<bits-1, 1<<bits+1, -(1 << bits))
	}
	for len(list) < n {
		list = append(list, r.Uint64()>>r.IntN(64))
	}
	return list
}

// someBytes returns byte strings in which the bytes that matter to a number are frequent.
func someBytes(n int) [][]byte {
	r := rand.New(rand.NewPCG(6, uint64(n)))
	var list [][]byte
	for len(list) < n {
		b := make([]byte, r.IntN(14))
		for i := range b {
			b[i] = byte(r.Uint32()) | byte(r.IntN(2))<<7
			if r.IntN(5) == 0 {
				b[i] = []byte{0, 1, 2, 0x7F, 0x80, 0x81, 0xFF}[r.IntN(7)]
			}
		}
		list = append(list, b)
	}
	return list
}

// P5.4

func TestNumbersAreReadBack(t *testing.T) {
	for _, n := range someNumbers(5000) {
		b := wire.PutUvarint([]byte{0x80}, n)
		checkBytes(t, "PutUvarint", b[1:], binary.AppendUvarint(nil, n))
		c := past(t, []byte{0x80}, append(b[1:], 0xFF, 3))
		if m, e := c.Uvarint(); m != n || e != api.OK {
			t.Errorf("Uvarint: %d, error %d, want %d", m, e, n)
		}
		checkPlace(t, c, len(b), 2)
	}
}

func TestSignedNumbersAreReadBack(t *testing.T) {
	for _, u := range someNumbers(5000) {
		n := int64(u)
		b := wire.PutZigzag([]byte{0x80}, n)
		checkBytes(t, "PutZigzag", b[1:], binary.AppendVarint(nil, n))
		c := past(t, []byte{0x80}, append(b[1:], 0xFF, 3))
		if m, e := c.Zigzag(); m != n || e != api.OK {
			t.Errorf("Zigzag: %d, error %d, want %d", m, e, n)
		}
		checkPlace(t, c, len(b), 2)
	}
}

func TestBlocksAreReadBack(t *testing.T) {
	for n := range 400 {
		block := bytes.Repeat([]byte{byte(n)}, n)
		b := wire.PutBlock(nil, block)
		c := wire.New(append(b, 7))
		if l, e := c.Block(n); !bytes.Equal(l, block) || e != api.OK {
			t.Errorf("Block of %d: %x, error %d", n, l, e)
		}
		checkPlace(t, c, len(b), 1)
	}
}

// A block cut off anywhere ends early, in its number or in its bytes.
func TestTruncatedBlocks(t *testing.T) {
	for _, n := range []int{1, 2, 127, 128, 300} {
		b := wire.PutBlock(nil, make([]byte, n))
		for size := range len(b) {
			c := wire.New(b[:size])
			if l, e := c.Block(n); len(l) != 0 || e != api.ErrShort {
				t.Errorf("Block of %d, %d of %d bytes: %x, error %d", n, size, len(b), l, e)
			}
			checkPlace(t, c, 0, size)
		}
	}
}

// Bytes that are read as a number are the encoding of that number, and others have an error that
// is worked out here from the definition.
func TestReadBytesAreTheEncoding(t *testing.T) {
	for _, b := range someBytes(50000) {
		c := wire.New(b)
		n, e := c.Uvarint()
		if want := errorOf(b); e != want {
			t.Errorf("Uvarint %x: error %d, want %d", b, e, want)
			continue
		}
		if e != api.OK {
			checkPlace(t, c, 0, len(b))
			continue
		}
		checkBytes(t, "PutUvarint of Uvarint", wire.PutUvarint(nil, n), b[:c.At()])
		d := wire.New(b)
		m, e := d.Zigzag()
		if e != api.OK || d.At() != c.At() {
			t.Errorf("Zigzag %x: error %d, at %d, want at %d", b, e, d.At(), c.At())
		}
		checkBytes(t, "PutZigzag of Zigzag", wire.PutZigzag(nil, m), b[:d.At()])
	}
}

func errorOf(b []byte) api.Errno {
	last := 0
	for last < len(b) && b[last] >= 128 {
		last++
	}
	switch {
	case last >= 10:
		return api.ErrMinimal
	case last == len(b):
		return api.ErrShort
	case b[last] == 0 && last > 0, b[last] > 1 && last == 9:
		return api.ErrMinimal
	}
	return api.OK
}

// All numbers of up to two bytes, and all byte strings of up to two bytes, have the one encoding.
func TestAllShortNumbers(t *testing.T) {
	read := map[uint64]bool{}
	for i := range 1 << 16 {
		b := []byte{byte(i), byte(i >> 8)}
		c := wire.New(b)
		n, e := c.Uvarint()
		if e != errorOf(b) {
			t.Errorf("Uvarint %x: %d, error %d", b, n, e)
		}
		if e == api.OK && c.At() == 2 || i < 128 {
			if read[n] {
				t.Errorf("Uvarint %x: %d once more", b, n)
			}
			read[n] = true
		}
	}
	if len(read) != 1<<14 {
		t.Errorf("%d numbers of up to two bytes", len(read))
	}
}

func TestManyThingsInARow(t *testing.T) {
	var b []byte
	list := someNumbers(400)
	for i, n := range list {
		b = wire.PutUvarint(b, n)
		b = wire.PutZigzag(b, -int64(n))
		b = wire.PutBlock(b, make([]byte, i))
		b = append(b, byte(n))
	}
	c := wire.New(b)
	for i, n := range list {
		if m, e := c.Uvarint(); m != n || e != api.OK {
			t.Errorf("Uvarint: %d, error %d, want %d", m, e, n)
		}
		if m, e := c.Zigzag(); m != -int64(n) || e != api.OK {
			t.Errorf("Zigzag: %d, error %d, want %d", m, e, -int64(n))
		}
		if l, e := c.Block(len(list)); !bytes.Equal(l, make([]byte, i)) || e != api.OK {
			t.Errorf("Block: %x, error %d", l, e)
		}
		if x, e := c.Byte(); x != byte(n) || e != api.OK {
			t.Errorf("Byte: %d, error %d", x, e)
		}
	}
	checkPlace(t, c, len(b), 0)
}
