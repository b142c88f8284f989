package apply

import (
	"math/bits"
	"slices"
)

// The long sum of layer 2, which this layer doesn't call: a look holds what it reads against digests.

// firstWords and roundWords: how SHA-256 begins, and what each of its rounds takes.
var firstWords = [8]uint32{
	0x6A09E667, 0xBB67AE85, 0x3C6EF372, 0xA54FF53A, 0x510E527F, 0x9B05688C, 0x1F83D9AB, 0x5BE0CD19,
}

var roundWords = [64]uint32{
	0x428A2F98, 0x71374491, 0xB5C0FBCF, 0xE9B5DBA5, 0x3956C25B, 0x59F111F1, 0x923F82A4, 0xAB1C5ED5,
	0xD807AA98, 0x12835B01, 0x243185BE, 0x550C7DC3, 0x72BE5D74, 0x80DEB1FE, 0x9BDC06A7, 0xC19BF174,
	0xE49B69C1, 0xEFBE4786, 0x0FC19DC6, 0x240CA1CC, 0x2DE92C6F, 0x4A7484AA, 0x5CB0A9DC, 0x76F988DA,
	0x983E5152, 0xA831C66D, 0xB00327C8, 0xBF597FC7, 0xC6E00BF3, 0xD5A79147, 0x06CA6351, 0x14292967,
	0x27B70A85, 0x2E1B2138, 0x4D2C6DFC, 0x53380D13, 0x650A7354, 0x766A0ABB, 0x81C2C92E, 0x92722C85,
	0xA2BFE8A1, 0xA81A664B, 0xC24B8B70, 0xC76C51A3, 0xD192E819, 0xD6990624, 0xF40E3585, 0x106AA070,
	0x19A4C116, 0x1E376C08, 0x2748774C, 0x34B0BCB5, 0x391C0CB3, 0x4ED8AA4A, 0x5B9CCA4F, 0x682E6FF3,
	0x748F82EE, 0x78A5636F, 0x84C87814, 0x8CC70208, 0x90BEFFFA, 0xA4506CEB, 0xBEF9A3F7, 0xC67178F2,
}

const blockLen = 64 // bytes that SHA-256 takes at once

// addSum lays a piece's sum behind those of the pieces ahead of it. The sum of them all is a digest.
func addSum(sums, piece []byte) []byte {
	h := sha(piece)
	return append(sums, h[:]...)
}

// sha tells the SHA-256 of a text.
func sha(text []byte) [32]byte {
	words := firstWords
	for block := range slices.Chunk(filled(text), blockLen) {
		words = mixed(words, block)
	}
	var h [32]byte
	for i := range h {
		h[i] = byte(words[i/4] >> (24 - 8*(i%4)))
	}
	return h
}

// filled tells a text with its end and its number of bits behind it, as whole blocks.
func filled(text []byte) []byte {
	b := append(slices.Clone(text), 0x80)
	for len(b)%blockLen != blockLen-8 {
		b = append(b, 0)
	}
	n := uint64(len(text)) * 8
	for shift := 56; shift >= 0; shift -= 8 {
		b = append(b, byte(n>>shift))
	}
	return b
}

// mixed tells what the words come to by one block more.
func mixed(from [8]uint32, block []byte) [8]uint32 {
	w := spread(block)
	a, b, c, d, e, f, g, h := from[0], from[1], from[2], from[3], from[4], from[5], from[6], from[7]
	for t := range w {
		x := h + (right(e, 6) ^ right(e, 11) ^ right(e, 25)) + (e&f ^ ^e&g) + roundWords[t] + w[t]
		y := (right(a, 2) ^ right(a, 13) ^ right(a, 22)) + (a&b ^ a&c ^ b&c)
		h, g, f, e, d, c, b, a = g, f, e, d+x, c, b, a, x+y
	}
	for i, n := range [8]uint32{a, b, c, d, e, f, g, h} {
		from[i] += n
	}
	return from
}

// spread tells the word that each round takes from a block.
func spread(block []byte) [64]uint32 {
	var w [64]uint32
	for i, c := range block {
		w[i/4] = w[i/4]<<8 | uint32(c)
	}
	for t := 16; t < len(w); t++ {
		s0 := right(w[t-15], 7) ^ right(w[t-15], 18) ^ w[t-15]>>3
		s1 := right(w[t-2], 17) ^ right(w[t-2], 19) ^ w[t-2]>>10
		w[t] = w[t-16] + s0 + w[t-7] + s1
	}
	return w
}

// right tells x turned by n bits to the right.
func right(x uint32, n int) uint32 { return bits.RotateLeft32(x, -n) }
