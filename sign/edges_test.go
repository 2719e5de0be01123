package sign

import (
	"bytes"
	"slices"
	"strconv"
	"testing"

	"chatelaine/api"
	"chatelaine/sift"
)

// edge is what a turn has just at its bound, or just past it, and of each set the request (of key 0) in which a turn has that, and all else is right.
type edge struct {
	name     string
	put      func(p row, x *turned) bool // tells whether it is so, and brings what is past its bound back
	right    bool
	requests [3]int
}

func edges() []edge {
	return []edge{
		{"z is g1 - beta - 1", func(p row, x *turned) bool { return x.z == p.g1-p.beta-1 }, true, [3]int{147, 216, 106}},
		{"z is g1 - beta", func(p row, x *turned) bool { was := x.z; x.z = 0; return was == p.g1-p.beta }, false, [3]int{64, 122, 165}},
		{"a low part is g2 - beta - 1", func(p row, x *turned) bool { return x.low == p.g2-p.beta-1 }, true, [3]int{8, 264, 20}},
		{"a low part is g2 - beta", func(p row, x *turned) bool { was := x.low; x.low = 0; return was == p.g2-p.beta }, false, [3]int{144, 40, 636}},
		{"omega hints", func(p row, x *turned) bool { return x.ones == p.omega }, true, [3]int{14, 262, 151}},
		{"omega + 1 hints", func(p row, x *turned) bool { was := x.ones; x.ones = 0; return was == p.omega+1 }, false, [3]int{38, 1249, 262}},
	}
}

// has tells whether a request has a turn that is right but for this edge.
func (x edge) has(p row, turns []turned) bool {
	return slices.ContainsFunc(turns, func(turn turned) bool { return p.right(turn) == x.right && x.put(p, &turn) && p.right(turn) })
}

// The turn at an edge is taken, or another one is, as the chapter says.
func TestSignAtEachEdge(t *testing.T) {
	for _, p := range rows() {
		keys := p.keys(0)
		for _, x := range edges() {
			ask := drawnAsked(x.requests[p.set-1])
			turns := p.slowSigner(keys.signing, ask).turns()
			if !x.has(p, turns) {
				t.Fatalf("P13.2: no turn of this request of set %d has it: %s", p.set, x.name)
			}
			sig, e := p.sign(keys.signing, ask)
			if e != nil || !bytes.Equal(sig, turns[len(turns)-1].sig) {
				t.Errorf("P13.2: Sign(%d) where %s is another turn's: %v", p.set, x.name, e)
			}
			if e := p.check(keys.verify, ask, sig); e != nil {
				t.Errorf("P13.4: Verify(%d) where %s: %v", p.set, x.name, e)
			}
		}
	}
}

// A signature whose numbers are g1 - beta, or beyond, is none, though its challenge is right.
func TestVerifyOfGreatNumbers(t *testing.T) {
	for _, p := range rows() {
		keys, just, beyond := p.keys(0), 0, 0
		for _, request := range []int{edges()[1].requests[p.set-1], 0, 1, 2, 3, 4, 5, 6, 7} {
			ask := drawnAsked(request)
			for _, x := range p.slowSigner(keys.signing, ask).turns() {
				if x.sig == nil || !p.slowVerify(keys.verify, ask, x.sig) {
					continue
				}
				want := api.OK
				if x.z >= p.g1-p.beta {
					want = api.ErrSign
					beyond++
				}
				if x.z == p.g1-p.beta {
					just++
				}
				if e := p.check(keys.verify, ask, x.sig); !is(e, want) {
					t.Errorf("P13.3: Verify(%d) of numbers up to %d: %v, not %v", p.set, x.z, e, want)
				}
			}
		}
		if just == 0 || beyond < 5 {
			t.Errorf("P13.3: the signatures tried of set %d are %d with g1 - beta, %d with that and beyond", p.set, just, beyond)
		}
	}
}

// Each number of a signature counts, whichever poly and place it has.
func TestVerifyOfOneGreatNumber(t *testing.T) {
	for _, p := range rows() {
		keys, ask := p.keys(0), drawnAsked(3)
		sig := must(p.sign(keys.signing, ask))
		z := cutPolys(p.g1, p.maskBits, p.l, sig[p.c:])
		for r := range p.l {
			for _, i := range []int{0, 100, 255} {
				for _, x := range []int{p.g1, p.g1 - 1, p.g1 - p.beta, p.beta - p.g1, 1 - p.g1} {
					odd := slices.Clone(z)
					odd[r] = slices.Clone(z[r])
					odd[r][i] = mod(x)
					great := laid(p.g1-1, p.g1, odd)
					if e := p.check(keys.verify, ask, slices.Concat(sig[:p.c], great, sig[p.hintsAt():])); !is(e, api.ErrSign) {
						t.Errorf("P13.3: Verify(%d) where number %d of z(%d) is %d: %v", p.set, i, r, x, e)
					}
				}
			}
		}
	}
}

// A signature by another challenge, of which one bit is not as the chapter tells it, is none, though all else fits.
func TestVerifyOfOtherChallenges(t *testing.T) {
	for _, p := range rows() {
		keys, ask := p.keys(0), drawnAsked(2)
		for _, at := range []int{-1, 0, 7, 15, 16, 30, 31, p.c/2 - 1, p.c / 2, p.c - 2, p.c - 1} {
			s, want := p.slowSigner(keys.signing, ask), api.OK
			if at >= 0 {
				s.marks, want = changed(make([]byte, p.c), at, 1<<(at%8)), api.ErrSign
			}
			turns := s.turns()
			if e := p.check(keys.verify, ask, turns[len(turns)-1].sig); !is(e, want) {
				t.Errorf("P13.3: Verify(%d) of a challenge with byte %d changed: %v, not %v", p.set, at, e, want)
			}
		}
	}
}

// t0For is a poly whose product with b has that number at place 255, and none further from 0. The last of tau numbers takes what is left.
func t0For(b []int, sum int) []int {
	f, left, many := make([]int, count), sum, 0
	for _, x := range b {
		if x != 0 {
			many++
		}
	}
	for j, x := range b {
		if x == 0 {
			continue
		}
		part := left / many
		left, many = left-part, many-1
		if x != 1 {
			part = -part
		}
		f[255-j] = mod(part)
	}
	return f
}

// No b t0 of sets 2 and 3 goes as far as g2, as tau times 4096 is less. Of set 1 there is t0, for the very b that a turn makes: b hangs on all but t0.
func TestSignWhereT0GoesFar(t *testing.T) {
	p := rows()[0]
	for request := range 4 {
		k, ask := p.parts(p.keys(request).signing), drawnAsked(request)
		k.t0 = slices.Repeat([][]int{filled(0)}, p.k)
		turns := p.slowSigner(p.signingOf(k), ask).turns()
		b := must(sift.Ball(p.set, turns[len(turns)-1].sig[:p.c]))
		for r := range p.k {
			for _, sum := range []int{p.g2 - 1, p.g2, p.g2 + 1, 1 - p.g2, -p.g2, -p.g2 - 1} {
				k.t0 = slices.Repeat([][]int{filled(0)}, p.k)
				k.t0[r] = t0For(b, sum)
				p.checkFar(t, p.signingOf(k), ask, len(turns), max(sum, -sum))
			}
		}
	}
}

// checkFar signs with a key for which b t0 goes that far in the turn that would be right else, and no further.
func (p row) checkFar(t *testing.T, signing []byte, ask asked, turn int, far int) {
	turns := p.slowSigner(signing, ask).turns()
	if turns[turn-1].bt0 != far || (len(turns) == turn) != (far < p.g2) {
		t.Fatalf("P13.2: b t0 goes as far as %d, not %d; %d turns", turns[turn-1].bt0, far, len(turns))
	}
	if sig, e := p.sign(signing, ask); e != nil || !bytes.Equal(sig, turns[len(turns)-1].sig) {
		t.Errorf("P13.2: Sign(%d) where b t0 goes as far as %d is another turn's: %v", p.set, far, e)
	}
}

// farKey is a signing key whose t0 goes so far at each number: few turns have no more than omega hints.
func (p row) farKey(reach int) []byte {
	k, b := p.parts(p.keys(0).signing), drawnBytes(p.set, count*p.k)
	for r := range k.t0 {
		for i := range k.t0[r] {
			k.t0[r][i] = reach
			if b[count*r+i] >= 128 {
				k.t0[r][i] = mod(1 - reach)
			}
		}
	}
	return p.signingOf(k)
}

// The last turn that counts is number 499, from 0 on.
func TestSignEndsBehindMaxTurns(t *testing.T) {
	for _, x := range []struct {
		set, reach, request, turn int // the first that is right; 501 of later ones
	}{{1, 3700, 1575, 499}, {2, 4096, 518, 501}, {3, 4096, 2092, 499}, {3, 4096, 2934, 500}} {
		t.Run(strconv.Itoa(x.set)+" turn "+strconv.Itoa(x.turn), func(t *testing.T) {
			t.Parallel()
			p := rows()[x.set-1]
			signing, ask := p.farKey(x.reach), drawnAsked(x.request)
			s := p.slowSigner(signing, ask)
			turns := s.turns()
			if p.right(turns[len(turns)-1]) != (x.turn < most) || len(turns) != most || p.right(s.turn(most*p.l)) != (x.turn == most) {
				t.Fatalf("P13.2: turn %d of set %d is not the first that is right", x.turn, p.set)
			}
			sig, e := p.sign(signing, ask)
			if x.turn < most && (e != nil || !bytes.Equal(sig, turns[x.turn].sig)) {
				t.Errorf("P13.2: Sign(%d), right in the last turn, is another signature: %v", p.set, e)
			}
			if x.turn >= most && !refused(sig, e, api.ErrOver) {
				t.Errorf("P13.2: Sign(%d), not right in any turn: %v", p.set, e)
			}
		})
	}
}
