package sign

import (
	"bytes"
	"crypto/sha3"
	"slices"

	"chatelaine/bits"
	"chatelaine/lay"
	"chatelaine/round"
	"chatelaine/sift"
	"chatelaine/wave"
)

const (
	prime = 8380417
	count = 256
	most  = 500 // the chapter's MaxTurns
)

// row is what the chapters say of a set.
type row struct {
	set, k, l, eta, tau, beta, omega, g1, g2, c int
	verify, signing, sig                        int // bytes of each
	smallBits, maskBits                         int // of a number of s1 and s2, of z
}

func rows() []row {
	return []row{
		{1, 4, 4, 2, 39, 78, 80, 131072, 95232, 32, 1312, 2560, 2420, 3, 18},
		{2, 6, 5, 4, 49, 196, 55, 524288, 261888, 48, 1952, 4032, 3309, 4, 20},
		{3, 8, 7, 2, 60, 120, 75, 524288, 261888, 64, 2592, 4896, 4627, 3, 20},
	}
}

func must[T any](told T, e error) T {
	if e != nil {
		panic(e)
	}
	return told
}

func mod(x int) int { return (x%prime + prime) % prime }

// pair is a verifying and its signing key.
type pair struct{ verify, signing []byte }

// parts is a signing key, read by the chapter's words.
type parts struct {
	rho, key, tr []byte
	s1, s2, t0   [][]int
}

// asked is what Sign is asked, but for the set and the signing key.
type asked struct{ note, m, random []byte }

// turned is what a turn came to, within the bounds or not. Of numbers and hints that can't be laid there is no signature.
type turned struct {
	z, low, bt0, ones int
	sig               []byte
}

// cutPolys reads so many polys of numbers of d bits, each told as far below b.
func cutPolys(b int, d int, many int, laid []byte) [][]int {
	var fs [][]int
	for r := range many {
		f := make([]int, count)
		for i, x := range bits.Unpack(d, laid[32*d*r:32*d*(r+1)]) {
			f[i] = mod(b - x)
		}
		fs = append(fs, f)
	}
	return fs
}

func (p row) parts(signing []byte) parts {
	s2 := 128 + 32*p.smallBits*p.l
	t0 := s2 + 32*p.smallBits*p.k
	return parts{signing[:32], signing[32:64], signing[64:128], cutPolys(p.eta, p.smallBits, p.l, signing[128:]), cutPolys(p.eta, p.smallBits, p.k, signing[s2:]), cutPolys(4096, 13, p.k, signing[t0:])}
}

// signingOf is the signing key of these parts.
func (p row) signingOf(k parts) []byte {
	b := slices.Concat(k.rho, k.key, k.tr)
	for _, f := range slices.Concat(k.s1, k.s2) {
		b = append(b, lay.Near(p.eta, p.eta, f)...)
	}
	for _, f := range k.t0 {
		b = append(b, lay.Near(4095, 4096, f)...)
	}
	return b
}

func (p row) slowMatrix(rho []byte) [][][]int {
	var a [][][]int
	for r := range p.k {
		var line [][]int
		for s := range p.l {
			line = append(line, must(sift.Even(rho, byte(s), byte(r))))
		}
		a = append(a, line)
	}
	return a
}

// slowSums are Back of the sums of all Times(A(r, s), Over(f(s))).
func (p row) slowSums(a [][][]int, fs [][]int) [][]int {
	var over, sums [][]int
	for _, f := range fs {
		over = append(over, wave.Over(f))
	}
	for r := range p.k {
		sum := make([]int, count)
		for s := range p.l {
			sum = wave.Add(sum, wave.Times(a[r][s], over[s]))
		}
		sums = append(sums, wave.Back(sum))
	}
	return sums
}

// slowTimes is b times f by hand: the 256-th power of the unknown is -1.
func slowTimes(b []int, f []int) []int {
	product := make([]int, count)
	for i, x := range b {
		if x == 0 {
			continue
		}
		for j, y := range f {
			if i+j < count {
				product[i+j] = mod(product[i+j] + x*y)
			} else {
				product[i+j-count] = mod(product[i+j-count] - x*y)
			}
		}
	}
	return product
}

// slowKeys goes by the chapter's words.
func (p row) slowKeys(seed []byte) pair {
	told := sha3.SumSHAKE256(slices.Concat(seed, []byte{byte(p.k), byte(p.l)}), 128)
	k := parts{rho: told[:32], key: told[96:]}
	for r := range p.l {
		k.s1 = append(k.s1, must(sift.Small(p.eta, told[32:96], r)))
	}
	for r := range p.k {
		k.s2 = append(k.s2, must(sift.Small(p.eta, told[32:96], p.l+r)))
	}
	verify, t0 := p.slowPublic(k)
	k.t0, k.tr = t0, sha3.SumSHAKE256(verify, 64)
	return pair{verify, p.signingOf(k)}
}

// slowPublic is the verifying key of rho, s1 and s2, and what of t it does not tell.
func (p row) slowPublic(k parts) ([]byte, [][]int) {
	verify, t0 := bytes.Clone(k.rho), [][]int{}
	for r, f := range p.slowSums(p.slowMatrix(k.rho), k.s1) {
		high, low := make([]int, count), make([]int, count)
		for i, x := range f {
			h, l := round.Split(mod(x + k.s2[r][i]))
			high[i], low[i] = h, mod(l)
		}
		verify, t0 = append(verify, bits.Pack(10, high...)...), append(t0, low)
	}
	return verify, t0
}

// slowDigest is Digest's, with tr in the place of the verifying key's hash.
func slowDigest(tr []byte, note []byte, m []byte) []byte {
	return sha3.SumSHAKE256(slices.Concat(tr, []byte{0, byte(len(note))}, note, m), 64)
}

// slowSigner is what the chapter makes ahead of the first turn. Marks, if there are any, make each challenge another one than the chapter's.
type slowSigner struct {
	row
	parts
	a        [][][]int
	mu, rho3 []byte
	marks    []byte
}

func (p row) slowSigner(signing []byte, ask asked) slowSigner {
	k := p.parts(signing)
	mu := slowDigest(k.tr, ask.note, ask.m)
	return slowSigner{p, k, p.slowMatrix(k.rho), mu, sha3.SumSHAKE256(slices.Concat(k.key, ask.random, mu), 64), nil}
}

// turn goes by the chapter's words.
func (s slowSigner) turn(n int) turned {
	var y, high, z, x, bt0 [][]int
	for r := range s.l {
		y = append(y, must(sift.Mask(s.set, s.rho3, n+r)))
	}
	w := s.slowSums(s.a, y)
	for _, f := range w {
		line := make([]int, count)
		for i, number := range f {
			line[i], _ = round.Part(s.g2, number)
		}
		high = append(high, line)
	}
	ch := sha3.SumSHAKE256(slices.Concat(s.mu, must(lay.High(s.set, high))), s.c)
	for i, mark := range s.marks {
		ch[i] ^= mark
	}
	b := must(sift.Ball(s.set, ch))
	for r := range s.l {
		z = append(z, wave.Add(y[r], slowTimes(b, s.s1[r])))
	}
	for r := range s.k {
		x = append(x, wave.Sub(w[r], slowTimes(b, s.s2[r])))
		bt0 = append(bt0, slowTimes(b, s.t0[r]))
	}
	told := turned{z: wave.Norm(z...), bt0: wave.Norm(bt0...)}
	hints := make([][]int, s.k)
	for r, f := range x {
		hints[r] = make([]int, count)
		for i, number := range f {
			_, low := round.Part(s.g2, number)
			told.low = max(told.low, low, -low)
			hints[r][i] = round.Hint(s.g2, -bt0[r][i], number+bt0[r][i])
			told.ones += hints[r][i]
		}
	}
	if told.ones <= s.omega && told.z < s.g1 {
		told.sig = s.sigOf(ch, z, hints)
	}
	return told
}

// sigOf is the signature of these parts.
func (p row) sigOf(ch []byte, z [][]int, hints [][]int) []byte {
	sig := bytes.Clone(ch)
	for _, f := range z {
		sig = append(sig, lay.Near(p.g1-1, p.g1, f)...)
	}
	return append(sig, must(lay.Hints(p.set, hints))...)
}

// right tells whether a turn is no other one's.
func (p row) right(x turned) bool {
	return x.z < p.g1-p.beta && x.low < p.g2-p.beta && x.bt0 < p.g2 && x.ones <= p.omega
}

// turns are all turns up to the first that is right, of most at most.
func (s slowSigner) turns() []turned {
	var all []turned
	for t := range most {
		all = append(all, s.turn(t*s.l))
		if s.right(all[t]) {
			break
		}
	}
	return all
}

// slowSign is the signature, or none, where the chapter answers ErrOver.
func (p row) slowSign(signing []byte, ask asked) []byte {
	all := p.slowSigner(signing, ask).turns()
	if last := all[len(all)-1]; p.right(last) {
		return last.sig
	}
	return nil
}

// slowVerify tells whether the challenge in sig is the one that the chapter tells of it, however great its numbers are.
func (p row) slowVerify(verify []byte, ask asked, sig []byte) bool {
	z := cutPolys(p.g1, p.maskBits, p.l, sig[p.c:])
	hints, b := must(lay.Unhint(p.set, sig[p.hintsAt():])), must(sift.Ball(p.set, sig[:p.c]))
	var high [][]int
	for r, f := range p.slowSums(p.slowMatrix(verify[:32]), z) {
		t := bits.Unpack(10, verify[32+320*r:32+320*(r+1)])
		for i := range t {
			t[i] *= 8192
		}
		f = wave.Sub(f, slowTimes(b, t))
		for i, x := range f {
			f[i] = round.Use(p.g2, hints[r][i], x)
		}
		high = append(high, f)
	}
	mu := slowDigest(sha3.SumSHAKE256(verify, 64), ask.note, ask.m)
	return bytes.Equal(sha3.SumSHAKE256(slices.Concat(mu, must(lay.High(p.set, high))), p.c), sig[:p.c])
}

// hintsAt is where the hints of a signature begin.
func (p row) hintsAt() int { return p.sig - p.omega - p.k }
