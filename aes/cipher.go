package aes

import "math/bits"

const (
	// size is the bytes of a key, of a block and of a tag.
	size = 16

	// wordSize is the bytes of a word, and of a column.
	wordSize = 4

	rounds = 10

	// fieldRest is what x^8 is in the field.
	fieldRest = 0x1b

	// scatterMark is what S adds behind all else.
	scatterMark = 0x63
)

type block [size]byte

// cipher is what a key says of every block.
type cipher struct {
	s    [256]byte
	keys [rounds + 1]block
}

func newCipher(key []byte) *cipher {
	c := &cipher{s: substitutes()}
	c.keys[0] = toBlock(key)
	step := byte(1)
	for i := range rounds {
		c.keys[i+1] = c.nextKey(c.keys[i], step)
		step = double(step)
	}
	return c
}

// nextKey is the round key behind k: each word is the one of its place in k and the word ahead of it, of which the first is k's last one, turned.
func (c *cipher) nextKey(k block, step byte) block {
	ahead := [wordSize]byte{c.s[k[13]] ^ step, c.s[k[14]], c.s[k[15]], c.s[k[12]]}
	for i := range k {
		k[i] ^= ahead[i%wordSize]
		ahead[i%wordSize] = k[i]
	}
	return k
}

func (c *cipher) encipher(b block) block {
	b = b.plus(c.keys[0])
	for i := 1; i < rounds; i++ {
		b = c.substituted(b).mixed().plus(c.keys[i])
	}
	return c.substituted(b).plus(c.keys[rounds])
}

// substituted is each byte through S, and each row turned by its number.
func (c *cipher) substituted(b block) block {
	var next block
	for i := range next {
		row := i % wordSize
		next[i] = c.s[b[(i+wordSize*row)%size]]
	}
	return next
}

// mixed is each column mixed in itself. A byte a, the one b behind it and all four's sum make 2 a + 3 b + the other two: 2 (a + b) + a + the sum.
func (b block) mixed() block {
	for at := 0; at < size; at += wordSize {
		a0, a1, a2, a3 := b[at], b[at+1], b[at+2], b[at+3]
		sum := a0 ^ a1 ^ a2 ^ a3
		b[at] = double(a0^a1) ^ a0 ^ sum
		b[at+1] = double(a1^a2) ^ a1 ^ sum
		b[at+2] = double(a2^a3) ^ a2 ^ sum
		b[at+3] = double(a3^a0) ^ a3 ^ sum
	}
	return b
}

func (b block) plus(other block) block {
	for i := range b {
		b[i] ^= other[i]
	}
	return b
}

// toBlock is a copy of at most 16 bytes, with bytes 0 behind them.
func toBlock(m []byte) block {
	var b block
	copy(b[:], m)
	return b
}

// substitutes is S of every byte. Each byte but 0 is a power of 3, and the powers i and 255 - i have the product 1: so all inverses are had from one walk.
func substitutes() [256]byte {
	var powers [255]byte
	power := byte(1)
	for i := range powers {
		powers[i] = power
		power ^= double(power)
	}
	var s [256]byte
	s[0] = scattered(0)
	for i, b := range powers {
		s[b] = scattered(powers[(len(powers)-i)%len(powers)])
	}
	return s
}

// scattered is S of the byte whose inverse is v.
func scattered(v byte) byte {
	return v ^ bits.RotateLeft8(v, 1) ^ bits.RotateLeft8(v, 2) ^ bits.RotateLeft8(v, 3) ^ bits.RotateLeft8(v, 4) ^ scatterMark
}

// double is twice b in the field. A branch on the highest bit would be guessed wrong half the time.
func double(b byte) byte { return b<<1 ^ (b>>7)*fieldRest }
