package nonces

import (
	"errors"
	"math"
	"slices"
	"sync"
	"testing"

	"chatelaine/api"
)

// told is what the three calls answer, but for the error.
type told struct {
	may, fresh bool
	behind     window
}

// call is what the calls are asked of, and what Use is answered, as an Errno.
type call struct {
	w    window
	n    int
	want api.Errno
}

func (c call) ask() (told, error) {
	high, used, e := Use(c.w.high, c.w.used, c.n)
	return told{May(c.w.high, c.w.used), Fresh(c.w.high, c.w.used, c.n), window{high, used}}, e
}

// answers are calls that answer no error.
func answers() []call {
	var found []call
	for _, w := range several() {
		for _, n := range []int{w.high + 1, w.high + 2, w.high + 63, w.high + 64, w.high + 1000, 1 << 40} {
			if n > w.high && n <= 1<<40 {
				found = append(found, call{w, n, api.OK})
			}
		}
	}
	return append(found, call{window{5, 1}, 1, api.OK}, call{window{1000, 1}, 937, api.OK}, call{window{1 << 40, all - 2}, 1<<40 - 1, api.OK})
}

// refused are calls that answer an error.
func refused() []call {
	var found []call
	for _, w := range wrong() {
		for _, n := range []int{-1, 0, 1, 5, 1000, 1<<40 + 1, math.MinInt, math.MaxInt} {
			found = append(found, call{w, n, api.ErrArg})
		}
	}
	for _, w := range several() {
		for _, n := range []int{math.MinInt, -1, 0, w.high, w.high - 64, w.high - 1000, 1<<40 + 1, math.MaxInt} {
			found = append(found, call{w, n, api.ErrNonce})
		}
	}
	return found
}

func every() []call { return append(answers(), refused()...) }

// Each error wraps a Fault of the Errno that is named and of no other; beside it there is nothing.
func TestErrors(t *testing.T) {
	for _, c := range refused() {
		got, e := c.ask()
		var fault *api.Fault
		if !errors.As(e, &fault) || fault.Code != c.want || !errors.Is(e, c.want) || api.Code(e) != c.want {
			t.Errorf("P18.1: Use of %v: %v is no Fault of %v", c, e, c.want)
			continue
		}
		for other := api.OK; other <= api.ErrWait; other++ {
			if other != c.want && errors.Is(e, other) {
				t.Errorf("P18.1: Use of %v: %v is told to be %v too", c, e, other)
			}
		}
		if got.behind != (window{}) || got.fresh || got.may != (c.want == api.ErrNonce) {
			t.Errorf("R2: of %v is told %v beside an error", c, got)
		}
		if inner := errors.Unwrap(e); inner == nil || !errors.Is(inner, fault) || e.Error() == fault.Error() {
			t.Errorf("P18.1: Use of %v: %v does not wrap its Fault", c, e)
		}
	}
}

// A Fault that is written over stays what other answers have.
func TestErrorsAreNew(t *testing.T) {
	for _, c := range refused() {
		var fault *api.Fault
		_, first := c.ask()
		_, kept := c.ask()
		if errors.As(first, &fault) {
			fault.Code = api.ErrWait
		}
		if _, again := c.ask(); !is(kept, c.want) || !is(again, c.want) {
			t.Errorf("R4: errors of Use of %v share memory", c)
		}
	}
}

// What was refused, and what was answered, leaves each other call as it was: a number that was used counts in the window behind it alone.
func TestAskedAgainBehindOthers(t *testing.T) {
	calls := every()
	var want []told
	for _, c := range calls {
		got, _ := c.ask()
		want = append(want, got)
	}
	for i, c := range slices.Backward(calls) {
		if got, e := c.ask(); got != want[i] || !is(e, c.want) {
			t.Errorf("R5: of %v is told %v, %v behind others", c, got, e)
		}
	}
}

func TestManyAtOnce(t *testing.T) {
	calls := every()
	var workers sync.WaitGroup
	for start := range 8 {
		workers.Go(func() {
			for _, c := range slices.Concat(calls[start*20:], calls[:start*20]) {
				if _, e := c.ask(); !is(e, c.want) {
					t.Errorf("R5: Use of %v is %v beside other calls", c, e)
				}
			}
		})
	}
	workers.Wait()
}

func BenchmarkUse(b *testing.B) {
	high, used := 1000, uint64(1)
	for b.Loop() {
		if high >= api.MaxNonce {
			high, used = 1000, 1
		}
		high, used, _ = Use(high, used, high+1)
	}
}
