package sign

import (
	mathbits "math/bits"
	"slices"

	"chatelaine/api"
	"chatelaine/bits"
	"chatelaine/fault"
	"chatelaine/lay"
	"chatelaine/round"
	"chatelaine/sift"
	"chatelaine/wave"
)

// How t is told: the steps nearest to its numbers in the verifying key, what is left in the signing key.
const (
	step     = 8192 // of round.Split
	highBits = 10
	lowDown  = step/2 - 1 // as far as what is left goes below 0
	lowUp    = step / 2   // and above
	maxNote  = 255        // bytes: a byte tells how many they are
)

// params is a set with its number, by which the layers below are asked.
type params struct {
	lay.Set
	number int
}

// secrets is the parts of a signing key; those of bytes share its memory.
type secrets struct {
	rho, key, tr []byte
	s1, s2, t0   [][]int
}

func haveSet(set int) (params, error) {
	of, ok := lay.Of(set)
	return params{Set: of, number: set}, fault.Unless(ok, api.ErrArg, "set")
}

func haveNote(note []byte) error {
	return fault.Unless(len(note) <= maxNote, api.ErrSize, "note")
}

func haveSigning(set int, signing []byte) (params, error) {
	p, e := haveSet(set)
	if e != nil {
		return params{}, e
	}
	_, size, _ := Sizes(set)
	return p, fault.Size("signing key", signing, size)
}

func haveSignable(set int, signing []byte, note []byte, random []byte) (params, error) {
	p, e := haveSigning(set, signing)
	if e != nil {
		return params{}, e
	}
	if e := fault.Size("random", random, seedSize); e != nil {
		return params{}, e
	}
	return p, haveNote(note)
}

func haveVerifiable(set int, verify []byte, note []byte, sig []byte) (params, error) {
	p, e := haveSet(set)
	if e != nil {
		return params{}, e
	}
	verifySize, _, sigSize := Sizes(set)
	if e := fault.Size("verifying key", verify, verifySize); e != nil {
		return params{}, e
	}
	if e := fault.Size("signature", sig, sigSize); e != nil {
		return params{}, e
	}
	return p, haveNote(note)
}

// secretsIn cuts a signing key of the right size; ErrForm, if a number of s1 or s2 is beyond eta: the bits that tell one tell such numbers, too.
func secretsIn(p params, signing []byte) (secrets, error) {
	rho, key, left := signing[:seedSize], signing[seedSize:2*seedSize], signing[2*seedSize:]
	tr, left := left[:hashSize], left[hashSize:]
	small, left := read(p.Eta, p.Eta, p.L+p.K, left)
	if e := fault.Unless(wave.Norm(small...) <= p.Eta, api.ErrForm, "signing key"); e != nil {
		return secrets{}, e
	}
	t0, _ := read(lowDown, lowUp, p.K, left)
	return secrets{rho: rho, key: key, tr: tr, s1: small[:p.L], s2: small[p.L:], t0: t0}, nil
}

// matrix is the chapter's A, row by row.
func matrix(p params, rho []byte) ([][][]int, error) {
	a := make([][][]int, p.K)
	for r := range a {
		a[r] = make([][]int, p.L)
		for s := range a[r] {
			f, e := sift.Even(rho, byte(s), byte(r))
			if e != nil {
				return nil, e
			}
			a[r][s] = f
		}
	}
	return a, nil
}

// smallRow is s1, and s2 behind it.
func smallRow(p params, rho2 []byte) ([][]int, error) {
	fs := make([][]int, p.L+p.K)
	for n := range fs {
		f, e := sift.Small(p.Eta, rho2, n)
		if e != nil {
			return nil, e
		}
		fs[n] = f
	}
	return fs, nil
}

// halves is t1 and t0: the high and the low parts of t.
func halves(p params, rho []byte, s1 [][]int, s2 [][]int) ([][]int, [][]int, error) {
	a, e := matrix(p, rho)
	if e != nil {
		return nil, nil, e
	}
	over, t1, t0 := allOver(s1), make([][]int, p.K), make([][]int, p.K)
	for r, row := range a {
		t1[r], t0[r] = split(wave.Add(wave.Back(wave.Dot(row, over)), s2[r]))
	}
	return t1, t0, nil
}

// split is round.Split of each number. The low parts are told as a poly.
func split(t []int) ([]int, []int) {
	high, low := make([]int, len(t)), make([]int, len(t))
	for i, x := range t {
		nearest, left := round.Split(x)
		high[i], low[i] = nearest, round.Of(left)
	}
	return high, low
}

// verifying lays a verifying key. A poly takes whole bytes, so all are packed at once as they are one by one.
func verifying(rho []byte, t1 [][]int) []byte {
	return slices.Concat(rho, bits.Pack(highBits, slices.Concat(t1...)...))
}

// wholeSteps is t without t0, of the bytes that t1 was packed into.
func wholeSteps(packed []byte) [][]int {
	numbers := bits.Unpack(highBits, packed)
	for i, x := range numbers {
		numbers[i] = step * x
	}
	return slices.Collect(slices.Chunk(numbers, api.N))
}

// laid is lay.Near of each poly, one behind the other.
func laid(a int, b int, fs [][]int) []byte {
	var all []byte
	for _, f := range fs {
		all = append(all, lay.Near(a, b, f)...)
	}
	return all
}

// read is so many polys off what laid told, and the bytes that are left.
func read(a int, b int, many int, all []byte) ([][]int, []byte) {
	size := api.N / 8 * mathbits.Len(uint(a+b))
	fs := make([][]int, many)
	for r := range fs {
		fs[r], all = lay.Far(a, b, all[:size]), all[size:]
	}
	return fs, all
}

func allOver(fs [][]int) [][]int {
	over := make([][]int, len(fs))
	for r, f := range fs {
		over[r] = wave.Over(f)
	}
	return over
}
