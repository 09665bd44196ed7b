package sha

import "math/bits"

const blockSize = 64

// words are carried from block to block as one value, so that none shares them with another.
type words [8]uint32

// beginning: of the square roots of the first eight primes, the first 32 bits behind the point.
var beginning = words{
	0x6a09e667, 0xbb67ae85, 0x3c6ef372, 0xa54ff53a, 0x510e527f, 0x9b05688c, 0x1f83d9ab, 0x5be0cd19,
}

// constants: of the cube roots of the first sixty-four primes, the first 32 bits behind the point.
var constants = [64]uint32{
	0x428a2f98, 0x71374491, 0xb5c0fbcf, 0xe9b5dba5, 0x3956c25b, 0x59f111f1, 0x923f82a4, 0xab1c5ed5,
	0xd807aa98, 0x12835b01, 0x243185be, 0x550c7dc3, 0x72be5d74, 0x80deb1fe, 0x9bdc06a7, 0xc19bf174,
	0xe49b69c1, 0xefbe4786, 0x0fc19dc6, 0x240ca1cc, 0x2de92c6f, 0x4a7484aa, 0x5cb0a9dc, 0x76f988da,
	0x983e5152, 0xa831c66d, 0xb00327c8, 0xbf597fc7, 0xc6e00bf3, 0xd5a79147, 0x06ca6351, 0x14292967,
	0x27b70a85, 0x2e1b2138, 0x4d2c6dfc, 0x53380d13, 0x650a7354, 0x766a0abb, 0x81c2c92e, 0x92722c85,
	0xa2bfe8a1, 0xa81a664b, 0xc24b8b70, 0xc76c51a3, 0xd192e819, 0xd6990624, 0xf40e3585, 0x106aa070,
	0x19a4c116, 0x1e376c08, 0x2748774c, 0x34b0bcb5, 0x391c0cb3, 0x4ed8aa4a, 0x5b9cca4f, 0x682e6ff3,
	0x748f82ee, 0x78a5636f, 0x84c87814, 0x8cc70208, 0x90befffa, 0xa4506ceb, 0xbef9a3f7, 0xc67178f2,
}

// with leaves the words that it is asked of as they were: they are added at the end.
func (v words) with(block [blockSize]byte) words {
	turned := func(w uint32, places ...int) uint32 {
		var all uint32
		for _, n := range places {
			all ^= bits.RotateLeft32(w, -n)
		}
		return all
	}
	var row [64]uint32
	for t := range 16 {
		row[t] = uint32(block[4*t])<<24 | uint32(block[4*t+1])<<16 | uint32(block[4*t+2])<<8 | uint32(block[4*t+3])
	}
	for t := 16; t < len(row); t++ {
		near, far := row[t-2], row[t-15]
		row[t] = row[t-16] + row[t-7] + (turned(far, 7, 18) ^ far>>3) + (turned(near, 17, 19) ^ near>>10)
	}
	a, b, c, d, e, f, g, h := v[0], v[1], v[2], v[3], v[4], v[5], v[6], v[7]
	for t, w := range row {
		x := h + constants[t] + w + turned(e, 6, 11, 25) + (e&f | ^e&g)
		y := turned(a, 2, 13, 22) + (a&b | a&c | b&c)
		h, g, f, e, d, c, b, a = g, f, e, d+x, c, b, a, x+y
	}
	return words{v[0] + a, v[1] + b, v[2] + c, v[3] + d, v[4] + e, v[5] + f, v[6] + g, v[7] + h}
}
