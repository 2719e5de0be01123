// Package keccak: a permutation of 1,600 bits. Its chapter: shared/doc/01-keccak.md.
//
// The steps that the chapter names take and answer the state as a value. What works is below them, in
// place, on the copy that they were handed: so Permute does not copy 25 words for each of its 120 steps.
package keccak

import "math/bits"

// turns are the bits by which Rho turns each word: the chapter's walk over the lanes, written out, since
// each round asks for all of them.
var turns = [25]int{
	0, 1, 62, 28, 27,
	36, 44, 6, 55, 20,
	3, 10, 43, 25, 39,
	41, 45, 15, 21, 8,
	18, 2, 61, 56, 14,
}

// marks are the words by which Iota changes lane (0, 0), one a round: the chapter's rc, written out, since
// a bit of it takes up to 254 turns.
var marks = [24]uint64{
	0x0000000000000001, 0x0000000000008082, 0x800000000000808A, 0x8000000080008000,
	0x000000000000808B, 0x0000000080000001, 0x8000000080008081, 0x8000000000008009,
	0x000000000000008A, 0x0000000000000088, 0x0000000080008009, 0x000000008000000A,
	0x000000008000808B, 0x800000000000008B, 0x8000000000008089, 0x8000000000008003,
	0x8000000000008002, 0x8000000000000080, 0x000000000000800A, 0x800000008000000A,
	0x8000000080008081, 0x8000000000008080, 0x0000000080000001, 0x8000000080008008,
}

// Theta changes each lane by the two columns beside its own.
func Theta(a [25]uint64) [25]uint64 {
	theta(&a)
	return a
}

// Rho turns each lane by bits of its own.
func Rho(a [25]uint64) [25]uint64 {
	rho(&a)
	return a
}

// Pi moves each lane but (0, 0) to another place.
func Pi(a [25]uint64) [25]uint64 {
	pi(&a)
	return a
}

// Chi changes each lane by the two behind it in its row.
func Chi(a [25]uint64) [25]uint64 {
	chi(&a)
	return a
}

// Iota changes lane (0, 0) by the round's mark.
func Iota(a [25]uint64, round int) [25]uint64 {
	mark(&a, round)
	return a
}

// Round is the five steps, one behind the other.
func Round(a [25]uint64, round int) [25]uint64 {
	turn(&a, round)
	return a
}

// Permute is all rounds, from 0 to 23.
func Permute(a [25]uint64) [25]uint64 {
	for round := range len(marks) {
		turn(&a, round)
	}
	return a
}

func turn(a *[25]uint64, round int) {
	theta(a)
	rho(a)
	pi(a)
	chi(a)
	mark(a, round)
}

func theta(a *[25]uint64) {
	c0 := a[0] ^ a[5] ^ a[10] ^ a[15] ^ a[20]
	c1 := a[1] ^ a[6] ^ a[11] ^ a[16] ^ a[21]
	c2 := a[2] ^ a[7] ^ a[12] ^ a[17] ^ a[22]
	c3 := a[3] ^ a[8] ^ a[13] ^ a[18] ^ a[23]
	c4 := a[4] ^ a[9] ^ a[14] ^ a[19] ^ a[24]
	d0 := c4 ^ bits.RotateLeft64(c1, 1)
	d1 := c0 ^ bits.RotateLeft64(c2, 1)
	d2 := c1 ^ bits.RotateLeft64(c3, 1)
	d3 := c2 ^ bits.RotateLeft64(c4, 1)
	d4 := c3 ^ bits.RotateLeft64(c0, 1)
	for row := 0; row < 25; row += 5 {
		a[row] ^= d0
		a[row+1] ^= d1
		a[row+2] ^= d2
		a[row+3] ^= d3
		a[row+4] ^= d4
	}
}

func rho(a *[25]uint64) {
	for i, n := range turns {
		a[i] = bits.RotateLeft64(a[i], n)
	}
}

// pi goes along the one ring that the 24 lanes beside (0, 0) form, each taking what the next one was; so
// no second state is needed but for the lane from which the ring begins.
func pi(a *[25]uint64) {
	first := a[1]
	a[1], a[6], a[9], a[22], a[14], a[20] = a[6], a[9], a[22], a[14], a[20], a[2]
	a[2], a[12], a[13], a[19], a[23], a[15] = a[12], a[13], a[19], a[23], a[15], a[4]
	a[4], a[24], a[21], a[8], a[16], a[5] = a[24], a[21], a[8], a[16], a[5], a[3]
	a[3], a[18], a[17], a[11], a[7], a[10] = a[18], a[17], a[11], a[7], a[10], first
}

func chi(a *[25]uint64) {
	for row := 0; row < 25; row += 5 {
		l0, l1, l2, l3, l4 := a[row], a[row+1], a[row+2], a[row+3], a[row+4]
		a[row] = l0 ^ (^l1 & l2)
		a[row+1] = l1 ^ (^l2 & l3)
		a[row+2] = l2 ^ (^l3 & l4)
		a[row+3] = l3 ^ (^l4 & l0)
		a[row+4] = l4 ^ (^l0 & l1)
	}
}

// mark leaves the state as it is for a round that is none.
func mark(a *[25]uint64, round int) {
	if round >= 0 && round < len(marks) {
		a[0] ^= marks[round]
	}
}
