package sha

import "waterline/turn"

// fold takes one block into the words of a state (FIPS 180-4, 6.2.2).
func fold(words [8]uint32, block []byte) [8]uint32 {
	a, b, c, d := words[0], words[1], words[2], words[3]
	e, f, g, h := words[4], words[5], words[6], words[7]
	for i, w := range schedule(block) {
		one := h + mixHigh(e) + choose(e, f, g) + constants[i] + w
		two := mixLow(a) + majority(a, b, c)
		a, b, c, d, e, f, g, h = one+two, a, b, c, d+one, e, f, g
	}
	return [8]uint32{
		words[0] + a, words[1] + b, words[2] + c, words[3] + d,
		words[4] + e, words[5] + f, words[6] + g, words[7] + h,
	}
}

// schedule spreads a block's 16 words over all rounds.
func schedule(block []byte) [64]uint32 {
	var w [64]uint32
	for i := range 16 {
		w[i] = turn.Big(block[i*wordBytes:])
	}
	for i := 16; i < len(w); i++ {
		w[i] = w[i-16] + spreadLow(w[i-15]) + w[i-7] + spreadHigh(w[i-2])
	}
	return w
}

// choose takes each bit from y where x has a 1, else from z.
func choose(x, y, z uint32) uint32 {
	return x&y ^ ^x&z
}

// majority has each bit that two of the three have.
func majority(x, y, z uint32) uint32 {
	return x&y ^ x&z ^ y&z
}

// The four below are the standard's sums of one word turned round (capital sigma 0 and 1), and turned round and shifted (small sigma 0 and 1).

func mixLow(x uint32) uint32 {
	return turn.Right(x, 2) ^ turn.Right(x, 13) ^ turn.Right(x, 22)
}

func mixHigh(x uint32) uint32 {
	return turn.Right(x, 6) ^ turn.Right(x, 11) ^ turn.Right(x, 25)
}

func spreadLow(x uint32) uint32 {
	return turn.Right(x, 7) ^ turn.Right(x, 18) ^ x>>3
}

func spreadHigh(x uint32) uint32 {
	return turn.Right(x, 17) ^ turn.Right(x, 19) ^ x>>10
}
