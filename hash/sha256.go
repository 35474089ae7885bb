package hash

import "math/bits"

// sha256Rounds is how many words a block is drawn out to, and how many rounds mix them in.
const sha256Rounds = 64

// sha256Table is K of the chapter.
var sha256Table = [sha256Rounds]uint32{
	0x428a2f98, 0x71374491, 0xb5c0fbcf, 0xe9b5dba5, 0x3956c25b, 0x59f111f1, 0x923f82a4, 0xab1c5ed5,
	0xd807aa98, 0x12835b01, 0x243185be, 0x550c7dc3, 0x72be5d74, 0x80deb1fe, 0x9bdc06a7, 0xc19bf174,
	0xe49b69c1, 0xefbe4786, 0x0fc19dc6, 0x240ca1cc, 0x2de92c6f, 0x4a7484aa, 0x5cb0a9dc, 0x76f988da,
	0x983e5152, 0xa831c66d, 0xb00327c8, 0xbf597fc7, 0xc6e00bf3, 0xd5a79147, 0x06ca6351, 0x14292967,
	0x27b70a85, 0x2e1b2138, 0x4d2c6dfc, 0x53380d13, 0x650a7354, 0x766a0abb, 0x81c2c92e, 0x92722c85,
	0xa2bfe8a1, 0xa81a664b, 0xc24b8b70, 0xc76c51a3, 0xd192e819, 0xd6990624, 0xf40e3585, 0x106aa070,
	0x19a4c116, 0x1e376c08, 0x2748774c, 0x34b0bcb5, 0x391c0cb3, 0x4ed8aa4a, 0x5b9cca4f, 0x682e6ff3,
	0x748f82ee, 0x78a5636f, 0x84c87814, 0x8cc70208, 0x90befffa, 0xa4506ceb, 0xbef9a3f7, 0xc67178f2,
}

func sha256Start() [8]uint32 {
	return [8]uint32{0x6a09e667, 0xbb67ae85, 0x3c6ef372, 0xa54ff53a, 0x510e527f, 0x9b05688c, 0x1f83d9ab, 0x5be0cd19}
}

// sha256Blocks is the state behind all whole blocks of b.
func sha256Blocks(state [8]uint32, b []byte) [8]uint32 {
	for at := 0; at+blockLength <= len(b); at += blockLength {
		state = sha256Block(state, sha256Words(b[at:at+blockLength]))
	}
	return state
}

func sha256Block(state [8]uint32, words [sha256Rounds]uint32) [8]uint32 {
	a, b, c, d := state[0], state[1], state[2], state[3]
	e, f, g, h := state[4], state[5], state[6], state[7]
	for i := range sha256Rounds {
		t := h + (rotateRight(e, 6) ^ rotateRight(e, 11) ^ rotateRight(e, 25)) + (e&f ^ ^e&g) + sha256Table[i] + words[i]
		u := (rotateRight(a, 2) ^ rotateRight(a, 13) ^ rotateRight(a, 22)) + (a&b ^ a&c ^ b&c)
		h, g, f, e, d, c, b, a = g, f, e, d+t, c, b, a, t+u
	}
	return [8]uint32{
		state[0] + a, state[1] + b, state[2] + c, state[3] + d,
		state[4] + e, state[5] + f, state[6] + g, state[7] + h,
	}
}

// sha256Words is W of the chapter, of a whole block.
func sha256Words(block []byte) [sha256Rounds]uint32 {
	var words [sha256Rounds]uint32
	for i := range blockWords {
		at := 4 * i
		words[i] = uint32(block[at])<<24 | uint32(block[at+1])<<16 | uint32(block[at+2])<<8 | uint32(block[at+3])
	}
	for i := blockWords; i < sha256Rounds; i++ {
		x, y := words[i-15], words[i-2]
		s0 := rotateRight(x, 7) ^ rotateRight(x, 18) ^ x>>3
		s1 := rotateRight(y, 17) ^ rotateRight(y, 19) ^ y>>10
		words[i] = words[i-16] + s0 + words[i-7] + s1
	}
	return words
}

func rotateRight(word uint32, n int) uint32 { return bits.RotateLeft32(word, -n) }
