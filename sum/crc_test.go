package sum

import (
	"bytes"
	"hash/crc32"
	"math/rand"
	"testing"
)

// bitwise tells the CRC-32 as P2.4 says it, bit by bit, the polynomial as it is written there.
func bitwise(b []byte) uint32 {
	x := uint32(0xFFFFFFFF) // its highest bit is the one that leaves next
	for _, c := range b {
		for i := range 8 {
			top := x>>31 ^ uint32(c>>i)&1
			x <<= 1
			if top == 1 {
				x ^= 0x04C11DB7
			}
		}
	}
	var mirrored uint32
	for i := range 32 {
		mirrored |= (x >> i & 1) << (31 - i)
	}
	return ^mirrored
}

// sealed tells b with its CRC laid down behind it.
func sealed(b []byte) []byte {
	n := CRC(b)
	return append(bytes.Clone(b), byte(n), byte(n>>8), byte(n>>16), byte(n>>24))
}

// sound tells whether b ends with the CRC of what is ahead of that.
func sound(b []byte) bool {
	return bytes.Equal(b, sealed(b[:len(b)-4]))
}

// spans gives ways to turn bits within a span of 32, from each of n bits on: two bits, all bits of a run, bits by chance. Each mask has its first bit, so that at least the one at the place is turned.
func spans(n int, yield func(at int, mask uint32)) {
	r := rand.New(rand.NewSource(int64(n)))
	for at := range n {
		for i := range 32 {
			yield(at, 1|1<<i)
			yield(at, 1<<i|(1<<i-1))
			yield(at, r.Uint32()|1)
		}
	}
}

// turn tells b with the mask's bits turned from bit at on, or nil, if they don't all lie in it.
func turn(b []byte, at int, mask uint32) []byte {
	b = bytes.Clone(b)
	for i := range 32 {
		if mask>>i&1 == 0 {
			continue
		}
		if at+i >= 8*len(b) {
			return nil
		}
		b[(at+i)/8] ^= 1 << ((at + i) % 8)
	}
	return b
}

func TestP2_4Examples(t *testing.T) {
	for _, c := range []struct {
		text string
		want uint32
	}{
		{"", 0}, {"123456789", 0xCBF43926}, {"a", 0xE8B7BE43},
	} {
		if got := CRC([]byte(c.text)); got != c.want {
			t.Errorf("%q: %#x, want %#x", c.text, got, c.want)
		}
	}
	if CRC(nil) != 0 {
		t.Errorf("nil: %#x, want 0", CRC(nil))
	}
}

func TestP2_4Standard(t *testing.T) {
	for c := range 256 { // each place of the table, at both halves of a byte
		for _, b := range [][]byte{{byte(c)}, {0, byte(c)}, {byte(c), 0xFF}} {
			if CRC(b) != bitwise(b) {
				t.Errorf("% X: %#x, want %#x", b, CRC(b), bitwise(b))
			}
		}
	}
	for _, n := range append(lengths(), 1<<17) {
		b := text(n)
		if CRC(b) != bitwise(b) || CRC(b) != crc32.ChecksumIEEE(b) {
			t.Errorf("%d bytes: %#x, want %#x", n, CRC(b), bitwise(b))
		}
	}
}

// TestP2_4LaidDown: the lowest byte first. (Laid down so, sums leave one remainder, whatever the bytes are.)
func TestP2_4LaidDown(t *testing.T) {
	for _, n := range lengths() {
		if got := CRC(sealed(text(n))); got != 0x2144DF1C {
			t.Errorf("%d bytes and their sum: %#x, want 0x2144DF1C", n, got)
		}
	}
}

func TestP2_6TwoTexts(t *testing.T) {
	for _, n := range []int{1, 2, 3, 4, 5, 8, 13, 64} {
		b := text(n)
		have := CRC(b)
		spans(8*n, func(at int, mask uint32) {
			if c := turn(b, at, mask); c != nil && CRC(c) == have {
				t.Fatalf("%d bytes, %#x turned at bit %d: the same CRC", n, mask, at)
			}
		})
	}
}

// TestP2_6EachShortSpan: of a few bytes, all the ways to turn up to 12 bits that follow one another.
func TestP2_6EachShortSpan(t *testing.T) {
	b := text(6)
	whole := sealed(b)
	for at := range 8 * len(whole) {
		for mask := uint32(1); mask < 1<<12; mask += 2 {
			if c := turn(b, at, mask); c != nil && CRC(c) == CRC(b) {
				t.Fatalf("%#x turned at bit %d: the same CRC", mask, at)
			}
			if c := turn(whole, at, mask); c != nil && sound(c) {
				t.Fatalf("%#x turned at bit %d, sum and all: not found", mask, at)
			}
		}
	}
}

// TestP2_6Laid: damage in the bytes, in the sum behind them, and over the seam.
func TestP2_6Laid(t *testing.T) {
	for _, n := range []int{0, 1, 2, 3, 4, 5, 8, 13, 64, 519} {
		whole := sealed(text(n))
		if !sound(whole) {
			t.Fatalf("%d bytes: unsound as laid down", n)
		}
		var inBytes, inSum, overSeam int
		seam := 8 * n
		spans(8*len(whole), func(at int, mask uint32) {
			c := turn(whole, at, mask)
			if c == nil {
				return
			}
			if sound(c) {
				t.Fatalf("%d bytes, %#x turned at bit %d: not found", n, mask, at)
			}
			switch inside := turn(whole[:n], at, mask) != nil; {
			case at >= seam:
				inSum++
			case inside:
				inBytes++
			default:
				overSeam++
			}
		})
		if inSum == 0 || n > 0 && (inBytes == 0 || overSeam == 0) {
			t.Fatalf("%d bytes: damage was tried %d times in the bytes, %d in the sum, %d over the seam", n, inBytes, inSum, overSeam)
		}
	}
}

func TestP2_7Xor(t *testing.T) {
	r := rand.New(rand.NewSource(27))
	for _, n := range lengths() {
		for range 20 {
			x, y, z, all := make([]byte, n), make([]byte, n), make([]byte, n), make([]byte, n)
			r.Read(x)
			r.Read(y)
			r.Read(z)
			for i := range all {
				all[i] = x[i] ^ y[i] ^ z[i]
			}
			if CRC(all) != CRC(x)^CRC(y)^CRC(z) {
				t.Fatalf("%d bytes: %#x, want %#x", n, CRC(all), CRC(x)^CRC(y)^CRC(z))
			}
		}
		b := text(n)
		if zero := make([]byte, n); CRC(zero) != CRC(b)^CRC(b)^CRC(zero) {
			t.Errorf("%d bytes, a text with itself: another CRC", n)
		}
	}
}
