package sum

import "math/bits"

const (
	blockLen = 64           // bytes that are mixed in at once
	bitsAt   = blockLen - 8 // where, in the last block, the number of bits stands
	endByte  = 0x80         // stands behind the bytes
	wordLen  = 4
)

// words: what the blocks so far came to.
type words [8]uint32

// block: the next bytes to be mixed in.
type block [blockLen]byte

// firstWords are the first 32 bits of the fractions of the square roots of the first eight primes.
var firstWords = words{
	0x6A09E667, 0xBB67AE85, 0x3C6EF372, 0xA54FF53A, 0x510E527F, 0x9B05688C, 0x1F83D9AB, 0x5BE0CD19,
}

// roundWords are the first 32 bits of the fractions of the cube roots of the first 64 primes.
var roundWords = [64]uint32{
	0x428A2F98, 0x71374491, 0xB5C0FBCF, 0xE9B5DBA5, 0x3956C25B, 0x59F111F1, 0x923F82A4, 0xAB1C5ED5,
	0xD807AA98, 0x12835B01, 0x243185BE, 0x550C7DC3, 0x72BE5D74, 0x80DEB1FE, 0x9BDC06A7, 0xC19BF174,
	0xE49B69C1, 0xEFBE4786, 0x0FC19DC6, 0x240CA1CC, 0x2DE92C6F, 0x4A7484AA, 0x5CB0A9DC, 0x76F988DA,
	0x983E5152, 0xA831C66D, 0xB00327C8, 0xBF597FC7, 0xC6E00BF3, 0xD5A79147, 0x06CA6351, 0x14292967,
	0x27B70A85, 0x2E1B2138, 0x4D2C6DFC, 0x53380D13, 0x650A7354, 0x766A0ABB, 0x81C2C92E, 0x92722C85,
	0xA2BFE8A1, 0xA81A664B, 0xC24B8B70, 0xC76C51A3, 0xD192E819, 0xD6990624, 0xF40E3585, 0x106AA070,
	0x19A4C116, 0x1E376C08, 0x2748774C, 0x34B0BCB5, 0x391C0CB3, 0x4ED8AA4A, 0x5B9CCA4F, 0x682E6FF3,
	0x748F82EE, 0x78A5636F, 0x84C87814, 0x8CC70208, 0x90BEFFFA, 0xA4506CEB, 0xBEF9A3F7, 0xC67178F2,
}

// Hash: bytes that come one by one.
type Hash struct {
	mixed words // of the whole blocks
	rest  block // its first bytes are those that don't fill a block yet
	count int
}

// New makes one to which nothing was added.
func New() *Hash {
	return &Hash{mixed: firstWords}
}

// Add adds bytes.
func (h *Hash) Add(b []byte) {
	for len(b) > 0 {
		n := copy(h.rest[h.count%blockLen:], b)
		b = b[n:]
		h.count += n
		if h.count%blockLen == 0 {
			h.mixed = mix(h.mixed, h.rest)
		}
	}
}

// Sum tells the SHA-256 of what was added.
func (h *Hash) Sum() [32]byte {
	mixed, last := h.mixed, h.rest // copies: more may be added
	end := h.count % blockLen
	last[end] = endByte
	clear(last[end+1:])
	if end >= bitsAt { // the number of bits has no room in this block
		mixed, last = mix(mixed, last), block{}
	}
	n := uint64(h.count) * 8
	putWord(last[bitsAt:], uint32(n>>32))
	putWord(last[bitsAt+wordLen:], uint32(n))
	return bytesOf(mix(mixed, last))
}

// Len tells how many bytes were added.
func (h *Hash) Len() int { return h.count }

// mix tells what the words come to by one block more.
func mix(from words, next block) words {
	w := spread(next)
	a, b, c, d, e, f, g, h := from[0], from[1], from[2], from[3], from[4], from[5], from[6], from[7]
	for t := range w {
		x := h + turned(e, 6, 11, 25) + (e&f ^ ^e&g) + roundWords[t] + w[t]
		y := turned(a, 2, 13, 22) + (a&b ^ a&c ^ b&c)
		h, g, f, e, d, c, b, a = g, f, e, d+x, c, b, a, x+y
	}
	return words{
		from[0] + a, from[1] + b, from[2] + c, from[3] + d,
		from[4] + e, from[5] + f, from[6] + g, from[7] + h,
	}
}

// spread tells the word that each round takes from a block.
func spread(b block) [64]uint32 {
	var w [64]uint32
	for t := range 16 {
		w[t] = wordAt(b[wordLen*t:])
	}
	for t := 16; t < len(w); t++ {
		s0 := right(w[t-15], 7) ^ right(w[t-15], 18) ^ w[t-15]>>3
		s1 := right(w[t-2], 17) ^ right(w[t-2], 19) ^ w[t-2]>>10
		w[t] = w[t-16] + s0 + w[t-7] + s1
	}
	return w
}

// turned tells the xor of x turned to the right by i, by j and by k bits.
func turned(x uint32, i, j, k int) uint32 {
	return right(x, i) ^ right(x, j) ^ right(x, k)
}

// right tells x turned by n bits to the right.
func right(x uint32, n int) uint32 { return bits.RotateLeft32(x, -n) }

// wordAt tells the word that b begins with.
func wordAt(b []byte) uint32 {
	return uint32(b[0])<<24 | uint32(b[1])<<16 | uint32(b[2])<<8 | uint32(b[3])
}

// putWord lays x at b's beginning.
func putWord(b []byte, x uint32) {
	b[0], b[1], b[2], b[3] = byte(x>>24), byte(x>>16), byte(x>>8), byte(x)
}

// bytesOf tells the words' bytes.
func bytesOf(h words) [32]byte {
	var b [32]byte
	for i, x := range h {
		putWord(b[wordLen*i:], x)
	}
	return b
}
