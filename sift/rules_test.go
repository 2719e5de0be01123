package sift

import (
	"bytes"
	"errors"
	"slices"
	"sync"
	"testing"

	"chatelaine/api"
)

// call is one call, with the seed that it is asked of, and what is answered, as an Errno.
type call struct {
	name string
	seed []byte
	want api.Errno
	ask  func(seed []byte) ([]int, error)
}

func smallBut(eta int, n int) func(seed []byte) ([]int, error) {
	return func(seed []byte) ([]int, error) { return Small(eta, seed, n) }
}

func maskBut(set int, n int) func(seed []byte) ([]int, error) {
	return func(seed []byte) ([]int, error) { return Mask(set, seed, n) }
}

func ballBut(set int) func(seed []byte) ([]int, error) {
	return func(seed []byte) ([]int, error) { return Ball(set, seed) }
}

func evenBut(s byte, r byte) func(seed []byte) ([]int, error) {
	return func(seed []byte) ([]int, error) { return Even(seed, s, r) }
}

// refusals are calls that answer an error.
func refusals() []call {
	found := []call{
		{"Even of fewer", drawnBytes(1, 31), api.ErrSize, evenBut(0, 0)}, {"Even of more", drawnBytes(1, 33), api.ErrSize, evenBut(1, 255)}, {"Even of nil", nil, api.ErrSize, evenBut(0, 0)},
		{"Small of no eta", drawnBytes(1, 64), api.ErrArg, smallBut(3, 0)}, {"Small of no n", drawnBytes(1, 64), api.ErrArg, smallBut(2, 65536)},
		{"Small of no eta, fewer", drawnBytes(1, 63), api.ErrArg, smallBut(0, -1)}, {"Small of no n, fewer", drawnBytes(1, 63), api.ErrArg, smallBut(4, -1)},
		{"Small of fewer", drawnBytes(1, 63), api.ErrSize, smallBut(2, 0)}, {"Small of 32", drawnBytes(1, 32), api.ErrSize, smallBut(4, 65535)}, {"Small of nil", nil, api.ErrSize, smallBut(4, 1)},
		{"Mask of no set", drawnBytes(1, 64), api.ErrArg, maskBut(0, 0)}, {"Mask of no set, nil", nil, api.ErrArg, maskBut(4, 0)}, {"Ball of no set", drawnBytes(1, 32), api.ErrArg, ballBut(0)}, {"Ball of no set, nil", nil, api.ErrArg, ballBut(7)},
	}
	for _, p := range rows() {
		found = append(found, call{"Mask of no n", drawnBytes(1, 64), api.ErrArg, maskBut(p.set, -1)}, call{"Mask of no n, more", drawnBytes(1, 65), api.ErrArg, maskBut(p.set, 65536)},
			call{"Mask of more", drawnBytes(1, 65), api.ErrSize, maskBut(p.set, 65535)}, call{"Mask of nil", nil, api.ErrSize, maskBut(p.set, 0)},
			call{"Ball of fewer", drawnBytes(1, p.challenge-1), api.ErrSize, ballBut(p.set)}, call{"Ball of more", drawnBytes(1, p.challenge+1), api.ErrSize, ballBut(p.set)}, call{"Ball of nil", nil, api.ErrSize, ballBut(p.set)})
	}
	return found
}

// answers are calls that answer a poly.
func answers() []call {
	found := []call{{"Even", drawnBytes(1, 32), api.OK, evenBut(3, 250)}, {"Even of zeros", make([]byte, 32), api.OK, evenBut(0, 0)}}
	for _, n := range []int{0, 255, 256, 65535} {
		found = append(found, call{"Small(2)", drawnBytes(n, 64), api.OK, smallBut(2, n)}, call{"Small(4)", drawnBytes(n, 64), api.OK, smallBut(4, n)})
		for _, p := range rows() {
			found = append(found, call{"Mask", drawnBytes(n, 64), api.OK, maskBut(p.set, n)}, call{"Ball", drawnBytes(n, p.challenge), api.OK, ballBut(p.set)})
		}
	}
	return found
}

// Each error wraps a Fault of the Errno that is named and of no other; beside it there is nothing.
func TestErrors(t *testing.T) {
	for _, c := range refusals() {
		f, e := c.ask(c.seed)
		var fault *api.Fault
		if !errors.As(e, &fault) || fault.Code != c.want || !errors.Is(e, c.want) || api.Code(e) != c.want {
			t.Errorf("P12.1, P12.2: %s: %v is no Fault of %v", c.name, e, c.want)
			continue
		}
		for other := api.OK; other <= api.ErrWait; other++ {
			if other != c.want && errors.Is(e, other) {
				t.Errorf("P12.1, P12.2: %s: %v is told to be %v too", c.name, e, other)
			}
		}
		if len(f) != 0 {
			t.Errorf("R2: %s tells %d numbers beside an error", c.name, len(f))
		}
		if inner := errors.Unwrap(e); inner == nil || !errors.Is(inner, fault) || e.Error() == fault.Error() {
			t.Errorf("P12.1, P12.2: %s: %v does not wrap its Fault", c.name, e)
		}
	}
}

// A Fault that is written over stays what other answers have.
func TestErrorsAreNew(t *testing.T) {
	for _, c := range refusals() {
		var fault *api.Fault
		_, first := c.ask(c.seed)
		_, kept := c.ask(c.seed)
		if errors.As(first, &fault) {
			fault.Code = api.ErrWait
		}
		if _, again := c.ask(c.seed); !is(kept, c.want) || !is(again, c.want) {
			t.Errorf("R4: errors of %s share memory", c.name)
		}
	}
}

// withRoom is a seed with spare room behind it, which holds marks.
func withRoom(seed []byte, mark byte) []byte {
	return slices.Concat(seed, slices.Repeat([]byte{mark}, 100))[:len(seed)]
}

func TestWhatIsHandedInStays(t *testing.T) {
	for _, c := range append(answers(), refusals()...) {
		seed := withRoom(c.seed, 77)
		had := bytes.Clone(seed[:cap(seed)])
		f, e := c.ask(seed)
		clear(f[:cap(f)])
		if !bytes.Equal(seed[:cap(seed)], had) || !is(e, c.want) {
			t.Errorf("R4: %s changes its seed, the spare room, or shares memory with it: %v", c.name, e)
		}
	}
}

// What stands in spare room is none of the seed.
func TestSpareRoomIsNotCounted(t *testing.T) {
	for _, c := range append(answers(), refusals()...) {
		want, _ := c.ask(bytes.Clone(c.seed))
		for _, mark := range []byte{0, 77, 255} {
			if f, e := c.ask(withRoom(c.seed, mark)); !slices.Equal(f, want) || !is(e, c.want) {
				t.Errorf("R5: %s is another answer with spare room: %v", c.name, e)
			}
		}
	}
}

func TestAnswersShareNothing(t *testing.T) {
	for _, c := range append(answers(), refusals()...) {
		seed := withRoom(c.seed, 77)
		f, _ := c.ask(seed)
		again, e := c.ask(seed)
		want := slices.Clone(f)
		if !slices.Equal(again, want) || !is(e, c.want) {
			t.Errorf("R5: %s tells another answer the second time: %v", c.name, e)
		}
		for i := range again[:cap(again)] {
			again[:cap(again)][i] = -99
		}
		clear(seed[:cap(seed)])
		if !slices.Equal(f, want) {
			t.Errorf("R4: what %s told is changed later", c.name)
		}
		if last, e := c.ask(c.seed); !slices.Equal(last, want) || !is(e, c.want) {
			t.Errorf("R5: %s tells another answer, once its lists were written over: %v", c.name, e)
		}
	}
}

// What was refused, and what was answered, leaves each other call as it was.
func TestAskedAgainBehindOthers(t *testing.T) {
	all := append(answers(), refusals()...)
	var want [][]int
	for _, c := range all {
		f, _ := c.ask(c.seed)
		want = append(want, f)
	}
	for i, c := range slices.Backward(all) {
		if f, e := c.ask(c.seed); !slices.Equal(f, want[i]) || !is(e, c.want) {
			t.Errorf("R5: %s tells another answer behind others: %v", c.name, e)
		}
	}
}

func TestManyAtOnce(t *testing.T) {
	for _, c := range append(answers(), refusals()...) {
		want, _ := c.ask(c.seed)
		var all sync.WaitGroup
		for range 8 {
			all.Go(func() {
				for range 5 {
					if f, e := c.ask(c.seed); !slices.Equal(f, want) || !is(e, c.want) {
						t.Errorf("R5: %s tells another answer beside other calls", c.name)
					}
				}
			})
		}
		all.Wait()
	}
}
