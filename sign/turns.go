package sign

import (
	"errors"
	"slices"

	"chatelaine/api"
	"chatelaine/fault"
	"chatelaine/lay"
	"chatelaine/round"
	"chatelaine/sift"
	"chatelaine/wave"
)

// signer is what all turns of a signature need. Its polys are brought Over once, not in each turn.
type signer struct {
	params
	a          [][][]int
	s1, s2, t0 [][]int
	mu, rho3   []byte
}

// sign takes turns till one is right. One that is not is told by ErrOver, as lay.Hints tells too many hints.
func (s *signer) sign() ([]byte, error) {
	var sig []byte
turns:
	for n := range api.MaxTurns {
		tried, e := s.turn(n * s.L)
		switch {
		case e == nil:
			sig = tried
			break turns
		case !errors.Is(e, api.ErrOver):
			return nil, e
		}
	}
	return sig, fault.Unless(sig != nil, api.ErrOver, "signature")
}

// turn is the signature by the masks from number n on; ErrOver, if it would tell of the secrets, or would not verify.
func (s *signer) turn(n int) ([]byte, error) {
	y, e := s.masks(n)
	if e != nil {
		return nil, e
	}
	w := s.timesA(y)
	ch, e := challenge(s.params, s.mu, highParts(s.G2, w))
	if e != nil {
		return nil, e
	}
	b, e := sift.Ball(s.number, ch)
	if e != nil {
		return nil, e
	}
	b = wave.Over(b)
	z := eachTwo(wave.Add, y, products(b, s.s1))
	if e := fault.Unless(wave.Norm(z...) < s.G1-s.Beta, api.ErrOver, "numbers"); e != nil {
		return nil, e
	}
	x := eachTwo(wave.Sub, w, products(b, s.s2))
	if e := fault.Unless(lowNorm(s.G2, x) < s.G2-s.Beta, api.ErrOver, "low parts"); e != nil {
		return nil, e
	}
	hints, e := s.hints(x, products(b, s.t0))
	if e != nil {
		return nil, e
	}
	return slices.Concat(ch, laid(s.G1-1, s.G1, z), hints), nil
}

func (s *signer) masks(n int) ([][]int, error) {
	y := make([][]int, s.L)
	for r := range y {
		f, e := sift.Mask(s.number, s.rho3, n+r)
		if e != nil {
			return nil, e
		}
		y[r] = f
	}
	return y, nil
}

// timesA is the chapter's w.
func (s *signer) timesA(y [][]int) [][]int {
	over, w := allOver(y), make([][]int, s.K)
	for r, row := range s.a {
		w[r] = wave.Back(wave.Dot(row, over))
	}
	return w
}

// hints tell the high parts of x to one who knows x + bt0 alone; ErrOver, if they can't.
func (s *signer) hints(x [][]int, bt0 [][]int) ([]byte, error) {
	if e := fault.Unless(wave.Norm(bt0...) < s.G2, api.ErrOver, "b t0"); e != nil {
		return nil, e
	}
	h := eachTwo(wave.Add, x, bt0)
	for r, sum := range h {
		for i, away := range bt0[r] {
			sum[i] = round.Hint(s.G2, -away, sum[i])
		}
	}
	return lay.Hints(s.number, h)
}

func highParts(g int, fs [][]int) [][]int {
	told := make([][]int, len(fs))
	for r, f := range fs {
		told[r] = make([]int, len(f))
		for i, x := range f {
			told[r][i], _ = round.Part(g, x)
		}
	}
	return told
}

// lowNorm is how far from 0 the furthest low part is.
func lowNorm(g int, fs [][]int) int {
	furthest := 0
	for _, f := range fs {
		for _, x := range f {
			_, low := round.Part(g, x)
			furthest = max(furthest, low, -low)
		}
	}
	return furthest
}

// products are b times each poly, all of them as Over has them.
func products(b []int, fs [][]int) [][]int {
	told := make([][]int, len(fs))
	for r, f := range fs {
		told[r] = wave.Back(wave.Times(b, f))
	}
	return told
}

// eachTwo is what call tells of each of fs and the one of gs at its place.
func eachTwo(call func(f []int, g []int) []int, fs [][]int, gs [][]int) [][]int {
	told := make([][]int, len(fs))
	for r, f := range fs {
		told[r] = call(f, gs[r])
	}
	return told
}
