package digest

import (
	"math/bits"

	"assent/api"
)

const (
	blockSize  = 64 // bytes that are mixed in at once
	numberSize = 8  // bytes of the text's length at the end of its last block
	endMark    = 0x80
)

// roundWords are what the rounds add: of the cube roots of the first 64 primes the first 32 bits behind the point.
var roundWords = [64]uint32{
	0x428a2f98, 0x71374491, 0xb5c0fbcf, 0xe9b5dba5, 0x3956c25b, 0x59f111f1, 0x923f82a4, 0xab1c5ed5,
	0xd807aa98, 0x12835b01, 0x243185be, 0x550c7dc3, 0x72be5d74, 0x80deb1fe, 0x9bdc06a7, 0xc19bf174,
	0xe49b69c1, 0xefbe4786, 0x0fc19dc6, 0x240ca1cc, 0x2de92c6f, 0x4a7484aa, 0x5cb0a9dc, 0x76f988da,
	0x983e5152, 0xa831c66d, 0xb00327c8, 0xbf597fc7, 0xc6e00bf3, 0xd5a79147, 0x06ca6351, 0x14292967,
	0x27b70a85, 0x2e1b2138, 0x4d2c6dfc, 0x53380d13, 0x650a7354, 0x766a0abb, 0x81c2c92e, 0x92722c85,
	0xa2bfe8a1, 0xa81a664b, 0xc24b8b70, 0xc76c51a3, 0xd192e819, 0xd6990624, 0xf40e3585, 0x106aa070,
	0x19a4c116, 0x1e376c08, 0x2748774c, 0x34b0bcb5, 0x391c0cb3, 0x4ed8aa4a, 0x5b9cca4f, 0x682e6ff3,
	0x748f82ee, 0x78a5636f, 0x84c87814, 0x8cc70208, 0x90befffa, 0xa4506ceb, 0xbef9a3f7, 0xc67178f2,
}

// mixer is how far the digest of a text has come. It is a plain value: a copy goes on by itself.
type mixer struct {
	words [8]uint32
	rest  [blockSize]byte // what was taken behind the last whole block: so many bytes as are over
	taken uint64          // bytes, in all
}

func newMixer() mixer {
	return mixer{words: [8]uint32{
		0x6a09e667, 0xbb67ae85, 0x3c6ef372, 0xa54ff53a, 0x510e527f, 0x9b05688c, 0x1f83d9ab, 0x5be0cd19,
	}}
}

// take goes on with the bytes b.
func (m *mixer) take(b []byte) {
	over := int(m.taken % blockSize)
	m.taken += uint64(len(b))
	if over > 0 {
		n := copy(m.rest[over:], b)
		if over+n < blockSize {
			return
		}
		m.mix(m.rest[:])
		b = b[n:]
	}
	for len(b) >= blockSize {
		m.mix(b[:blockSize])
		b = b[blockSize:]
	}
	copy(m.rest[:], b)
}

// sum is the digest of what was taken. It closes a copy of the text, so that the text itself can go on.
func (m mixer) sum() api.Hash {
	var tail [blockSize + numberSize]byte
	tail[0] = endMark
	fill := blockSize - int((m.taken+numberSize)%blockSize)
	for k := range numberSize {
		tail[fill+k] = byte(m.taken * 8 >> (8 * (numberSize - 1 - k)))
	}
	m.take(tail[:fill+numberSize])
	var h api.Hash
	for k := range h {
		h[k] = byte(m.words[k/4] >> (8 * (3 - k%4)))
	}
	return h
}

// mix works one block into the words.
func (m *mixer) mix(block []byte) {
	plan := spread(block)
	a, b, c, d, e, f, g, h := m.words[0], m.words[1], m.words[2], m.words[3], m.words[4], m.words[5], m.words[6], m.words[7]
	for k, w := range plan {
		turned := bits.RotateLeft32(e, -6) ^ bits.RotateLeft32(e, -11) ^ bits.RotateLeft32(e, -25)
		chosen := e&f ^ ^e&g
		first := h + turned + chosen + roundWords[k] + w
		turned = bits.RotateLeft32(a, -2) ^ bits.RotateLeft32(a, -13) ^ bits.RotateLeft32(a, -22)
		most := a&b ^ a&c ^ b&c
		a, b, c, d, e, f, g, h = first+turned+most, a, b, c, d+first, e, f, g
	}
	for k, v := range [8]uint32{a, b, c, d, e, f, g, h} {
		m.words[k] += v
	}
}

// spread makes of a block's 16 words a word for each round.
func spread(block []byte) [64]uint32 {
	var plan [64]uint32
	for k := range 16 {
		plan[k] = uint32(block[4*k])<<24 | uint32(block[4*k+1])<<16 | uint32(block[4*k+2])<<8 | uint32(block[4*k+3])
	}
	for k := 16; k < len(plan); k++ {
		u, v := plan[k-15], plan[k-2]
		low := bits.RotateLeft32(u, -7) ^ bits.RotateLeft32(u, -18) ^ u>>3
		high := bits.RotateLeft32(v, -17) ^ bits.RotateLeft32(v, -19) ^ v>>10
		plan[k] = plan[k-16] + low + plan[k-7] + high
	}
	return plan
}
