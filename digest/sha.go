package digest

import (
	"iter"
	"math/bits"
)

// blockSize is the number of bytes that are mixed in at a time.
const blockSize = 64

// rounds has the constants of the 64 rounds.
var rounds = [64]uint32{
	0x428a2f98, 0x71374491, 0xb5c0fbcf, 0xe9b5dba5, 0x3956c25b, 0x59f111f1, 0x923f82a4, 0xab1c5ed5,
	0xd807aa98, 0x12835b01, 0x243185be, 0x550c7dc3, 0x72be5d74, 0x80deb1fe, 0x9bdc06a7, 0xc19bf174,
	0xe49b69c1, 0xefbe4786, 0x0fc19dc6, 0x240ca1cc, 0x2de92c6f, 0x4a7484aa, 0x5cb0a9dc, 0x76f988da,
	0x983e5152, 0xa831c66d, 0xb00327c8, 0xbf597fc7, 0xc6e00bf3, 0xd5a79147, 0x06ca6351, 0x14292967,
	0x27b70a85, 0x2e1b2138, 0x4d2c6dfc, 0x53380d13, 0x650a7354, 0x766a0abb, 0x81c2c92e, 0x92722c85,
	0xa2bfe8a1, 0xa81a664b, 0xc24b8b70, 0xc76c51a3, 0xd192e819, 0xd6990624, 0xf40e3585, 0x106aa070,
	0x19a4c116, 0x1e376c08, 0x2748774c, 0x34b0bcb5, 0x391c0cb3, 0x4ed8aa4a, 0x5b9cca4f, 0x682e6ff3,
	0x748f82ee, 0x78a5636f, 0x84c87814, 0x8cc70208, 0x90befffa, 0xa4506ceb, 0xbef9a3f7, 0xc67178f2,
}

// blocks yields s in blocks, with its padding.
func blocks(s string) iter.Seq[[blockSize]byte] {
	return func(yield func([blockSize]byte) bool) {
		var b [blockSize]byte
		rest := s
		for len(rest) >= blockSize {
			copy(b[:], rest)
			if !yield(b) {
				return
			}
			rest = rest[blockSize:]
		}
		b = [blockSize]byte{}
		b[copy(b[:], rest)] = 128
		if len(rest) >= blockSize-8 {
			if !yield(b) {
				return
			}
			b = [blockSize]byte{}
		}
		length := 8 * uint64(len(s))
		copy(b[blockSize-8:], octets(uint32(length>>32), uint32(length)))
		yield(b)
	}
}

// schedule spreads a block over the words of all rounds.
func schedule(b [blockSize]byte) [64]uint32 {
	var w [64]uint32
	for i := range 16 {
		w[i] = uint32(b[4*i])<<24 | uint32(b[4*i+1])<<16 | uint32(b[4*i+2])<<8 | uint32(b[4*i+3])
	}
	for i := 16; i < 64; i++ {
		x := turned(w[i-15], 7, 18) ^ w[i-15]>>3
		y := turned(w[i-2], 17, 19) ^ w[i-2]>>10
		w[i] = w[i-16] + x + w[i-7] + y
	}
	return w
}

// mix returns the state after the rounds with the words w.
func mix(state [8]uint32, w [64]uint32) [8]uint32 {
	a, b, c, d, e, f, g, h := state[0], state[1], state[2], state[3], state[4], state[5], state[6], state[7]
	for i := range 64 {
		t := h + turned(e, 6, 11, 25) + (e&f ^ ^e&g) + rounds[i] + w[i]
		u := turned(a, 2, 13, 22) + (a&b ^ a&c ^ b&c)
		a, b, c, d, e, f, g, h = t+u, a, b, c, d+t, e, f, g
	}
	for i, x := range [8]uint32{a, b, c, d, e, f, g, h} {
		state[i] += x
	}
	return state
}

// turned returns the XOR of w rotated right by each of the given numbers of bits.
func turned(w uint32, by ...int) uint32 {
	var x uint32
	for _, n := range by {
		x ^= bits.RotateLeft32(w, -n)
	}
	return x
}

// octets returns the bytes of words, the highest byte of each first.
func octets(words ...uint32) []byte {
	var out []byte
	for _, w := range words {
		out = append(out, byte(w>>24), byte(w>>16), byte(w>>8), byte(w))
	}
	return out
}
