package hash

import "math/bits"

// md5Steps is how many steps mix a block in.
const md5Steps = 64

// md5Table is K of the chapter.
var md5Table = [md5Steps]uint32{
	0xd76aa478, 0xe8c7b756, 0x242070db, 0xc1bdceee, 0xf57c0faf, 0x4787c62a, 0xa8304613, 0xfd469501,
	0x698098d8, 0x8b44f7af, 0xffff5bb1, 0x895cd7be, 0x6b901122, 0xfd987193, 0xa679438e, 0x49b40821,
	0xf61e2562, 0xc040b340, 0x265e5a51, 0xe9b6c7aa, 0xd62f105d, 0x02441453, 0xd8a1e681, 0xe7d3fbc8,
	0x21e1cde6, 0xc33707d6, 0xf4d50d87, 0x455a14ed, 0xa9e3e905, 0xfcefa3f8, 0x676f02d9, 0x8d2a4c8a,
	0xfffa3942, 0x8771f681, 0x6d9d6122, 0xfde5380c, 0xa4beea44, 0x4bdecfa9, 0xf6bb4b60, 0xbebfbc70,
	0x289b7ec6, 0xeaa127fa, 0xd4ef3085, 0x04881d05, 0xd9d4d039, 0xe6db99e5, 0x1fa27cf8, 0xc4ac5665,
	0xf4292244, 0x432aff97, 0xab9423a7, 0xfc93a039, 0x655b59c3, 0x8f0ccc92, 0xffeff47d, 0x85845dd1,
	0x6fa87e4f, 0xfe2ce6e0, 0xa3014314, 0x4e0811a1, 0xf7537e82, 0xbd3af235, 0x2ad7d2bb, 0xeb86d391,
}

// md5Turns is how far a step rotates: four numbers for each sixteen steps.
var md5Turns = [4][4]int{{7, 12, 17, 22}, {5, 9, 14, 20}, {4, 11, 16, 23}, {6, 10, 15, 21}}

func md5Start() [4]uint32 {
	return [4]uint32{0x67452301, 0xefcdab89, 0x98badcfe, 0x10325476}
}

// md5Blocks is the state behind all whole blocks of b.
func md5Blocks(state [4]uint32, b []byte) [4]uint32 {
	for at := 0; at+blockLength <= len(b); at += blockLength {
		state = md5Block(state, md5Words(b[at:at+blockLength]))
	}
	return state
}

func md5Block(state [4]uint32, words [blockWords]uint32) [4]uint32 {
	a, b, c, d := state[0], state[1], state[2], state[3]
	for i := range md5Steps {
		f, g := md5Mix(i, b, c, d)
		f += a + md5Table[i] + words[g]
		a, d, c = d, c, b
		b += bits.RotateLeft32(f, md5Turns[i/16][i%4])
	}
	return [4]uint32{state[0] + a, state[1] + b, state[2] + c, state[3] + d}
}

// md5Mix is what step i makes of three words, and the place of the block's word that it takes.
func md5Mix(i int, b, c, d uint32) (uint32, int) {
	switch {
	case i < 16:
		return b&c | ^b&d, i
	case i < 32:
		return d&b | ^d&c, (5*i + 1) % blockWords
	case i < 48:
		return b ^ c ^ d, (3*i + 5) % blockWords
	}
	return c ^ (b | ^d), 7 * i % blockWords
}

// md5Words is M of the chapter, of a whole block.
func md5Words(block []byte) [blockWords]uint32 {
	var words [blockWords]uint32
	for i := range words {
		at := 4 * i
		words[i] = uint32(block[at]) | uint32(block[at+1])<<8 | uint32(block[at+2])<<16 | uint32(block[at+3])<<24
	}
	return words
}
