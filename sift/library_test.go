package sift

import (
	"bytes"
	"crypto/mldsa"
	"crypto/sha3"
	"slices"
	"testing"

	"chatelaine/bits"
	"chatelaine/lay"
	"chatelaine/round"
	"chatelaine/wave"
)

// signer is a key of the library, ML-DSA of FIPS 204, and what the calls make out of its seed.
type signer struct {
	set    int
	of     lay.Set
	key    *mldsa.PrivateKey
	secret []byte    // what it signs with, beside the polys
	matrix [][][]int // of k times l, as Over has them
	s1, s2 [][]int
}

func newSigner(t *testing.T, set int, seed []byte) signer {
	params := []mldsa.Parameters{mldsa.MLDSA44(), mldsa.MLDSA65(), mldsa.MLDSA87()}[set-1]
	key, e := mldsa.NewPrivateKey(params, seed)
	if e != nil {
		t.Fatal(e)
	}
	of, _ := lay.Of(set)
	b := sha3.SumSHAKE256(slices.Concat(seed, []byte{byte(of.K), byte(of.L)}), 128)
	s := signer{set: set, of: of, key: key, secret: b[96:]}
	for i := range of.K {
		var line [][]int
		for j := range of.L {
			line = append(line, must(Even(b[:32], byte(j), byte(i))))
		}
		s.matrix = append(s.matrix, line)
		s.s2 = append(s.s2, must(Small(of.Eta, b[32:96], of.L+i)))
	}
	for j := range of.L {
		s.s1 = append(s.s1, must(Small(of.Eta, b[32:96], j)))
	}
	return s
}

func must(f []int, e error) []int {
	if e != nil {
		panic(e)
	}
	return f
}

func overAll(fs [][]int) [][]int {
	var found [][]int
	for _, f := range fs {
		found = append(found, wave.Over(f))
	}
	return found
}

// upper is the verifying key behind its first 32 bytes: of each poly the high parts of its numbers, by steps of 8192.
func (s signer) upper() (polys [][]int, packed []byte) {
	for i, line := range s.matrix {
		sum := wave.Add(wave.Back(wave.Dot(line, overAll(s.s1))), s.s2[i])
		var high []int
		for _, x := range sum {
			h, _ := round.Split(x)
			high = append(high, h)
		}
		polys = append(polys, high)
		packed = append(packed, bits.Pack(10, high...)...)
	}
	return polys, packed
}

// digest is what is signed of a message without a context.
func (s signer) digest(message []byte) []byte {
	whole := sha3.SumSHAKE256(s.key.PublicKey().Bytes(), 64)
	return sha3.SumSHAKE256(slices.Concat(whole, []byte{0, 0}, message), 64)
}

// Its verifying keys are those that Even and Small make out of the same seeds.
func TestEvenAndSmallByTheLibrary(t *testing.T) {
	for set := 1; set <= 3; set++ {
		for k := range 5 {
			s := newSigner(t, set, drawnBytes(k, 32))
			if _, packed := s.upper(); !bytes.Equal(packed, s.key.PublicKey().Bytes()[32:]) {
				t.Errorf("P12.1: key %d of set %d is another one than the library's", k, set)
			}
		}
	}
}

// Its signatures are by Mask and Ball: what Ball makes out of the challenge, times the secret, away from z, is a Mask.
func TestMaskAndBallByTheLibrary(t *testing.T) {
	for set := 1; set <= 3; set++ {
		for k := range 5 {
			s, message := newSigner(t, set, drawnBytes(k, 32)), []byte("a message")
			sig, e := s.key.SignDeterministic(message, nil)
			if e != nil {
				t.Fatal(e)
			}
			c, z := wave.Over(must(Ball(set, sig[:s.of.C]))), s.polys(sig)
			seed := sha3.SumSHAKE256(slices.Concat(s.secret, make([]byte, 32), s.digest(message)), 64)
			if !s.masked(c, z, seed) {
				t.Errorf("P12.2: signature %d of set %d has other masks, or another challenge", k, set)
			}
			if !bytes.Equal(s.challenge(message, c, z, sig), sig[:s.of.C]) {
				t.Errorf("P12.2: signature %d of set %d, with Ball's challenge, verifies otherwise", k, set)
			}
		}
	}
}

// polys are the l polys that a signature holds.
func (s signer) polys(sig []byte) [][]int {
	var z [][]int
	for laid := range slices.Chunk(sig[s.of.C:len(sig)-s.of.Omega-s.of.K], map[int]int{1 << 17: 576, 1 << 19: 640}[s.of.G1]) {
		z = append(z, lay.Far(s.of.G1-1, s.of.G1, laid))
	}
	return z
}

// masked tells whether the polys of a signature, without the secret's part, are the masks of some turn.
func (s signer) masked(c []int, z [][]int, seed []byte) bool {
	var masks [][]int
	for j := range z {
		masks = append(masks, wave.Sub(z[j], wave.Back(wave.Times(c, wave.Over(s.s1[j])))))
	}
	for turn := range 200 {
		same := 0
		for j := range masks {
			if slices.Equal(masks[j], must(Mask(s.set, seed, turn*s.of.L+j))) {
				same++
			}
		}
		if same == len(masks) {
			return true
		}
	}
	return false
}

// challenge is what a signature is verified by.
func (s signer) challenge(message []byte, c []int, z [][]int, sig []byte) []byte {
	hints, e := lay.Unhint(s.set, sig[len(sig)-s.of.Omega-s.of.K:])
	if e != nil {
		return nil
	}
	var high [][]int
	upper, _ := s.upper()
	for i, line := range s.matrix {
		var far []int
		for _, x := range upper[i] {
			far = append(far, round.Mul(x, 8192))
		}
		w := wave.Back(wave.Sub(wave.Dot(line, overAll(z)), wave.Times(c, wave.Over(far))))
		for n, x := range w {
			w[n] = round.Use(s.of.G2, hints[i][n], x)
		}
		high = append(high, w)
	}
	laid, e := lay.High(s.set, high)
	if e != nil {
		return nil
	}
	return sha3.SumSHAKE256(slices.Concat(s.digest(message), laid), s.of.C)
}
