package sign

import (
	"bytes"
	"errors"
	"slices"
	"strconv"
	"sync"
	"testing"

	"chatelaine/api"
)

// call is one call, with the lists that it is asked of, and what is answered, as an Errno.
type call struct {
	name string
	in   [][]byte
	want api.Errno
	ask  func(in [][]byte) ([][]byte, error)
}

func keysBut(set int) func(in [][]byte) ([][]byte, error) {
	return func(in [][]byte) ([][]byte, error) {
		verify, signing, e := Keys(set, in[0])
		return [][]byte{verify, signing}, e
	}
}

func digestOf(in [][]byte) ([][]byte, error) {
	mu, e := Digest(in[0], in[1], in[2])
	return [][]byte{mu}, e
}

func signBut(set int) func(in [][]byte) ([][]byte, error) {
	return func(in [][]byte) ([][]byte, error) {
		sig, e := Sign(set, in[0], in[1], in[2], in[3])
		return [][]byte{sig}, e
	}
}

func verifyBut(set int) func(in [][]byte) ([][]byte, error) {
	return func(in [][]byte) ([][]byte, error) { return nil, Verify(set, in[0], in[1], in[2], in[3]) }
}

func publicBut(set int) func(in [][]byte) ([][]byte, error) {
	return func(in [][]byte) ([][]byte, error) {
		verify, e := Public(set, in[0])
		return [][]byte{verify}, e
	}
}

// refusals are calls that answer an error.
func refusals() []call {
	note, m, random, long := []byte("a note"), []byte("a message"), drawnBytes(3, 32), drawnBytes(4, 256)
	found := []call{{"Digest of a long note", [][]byte{drawnBytes(1, 1312), long, m}, api.ErrSize, digestOf}}
	for _, p := range rows() {
		keys := p.keys(1)
		sig := must(p.sign(keys.signing, asked{note, m, random}))
		great := slices.Concat(sig[:p.c], make([]byte, p.hintsAt()-p.c), sig[p.hintsAt():])
		found = append(found,
			call{"Keys of no set", [][]byte{random}, api.ErrArg, keysBut(p.set + 3)}, call{"Keys of fewer", [][]byte{random[1:]}, api.ErrSize, keysBut(p.set)}, call{"Keys of nil", [][]byte{nil}, api.ErrSize, keysBut(p.set)},
			call{"Sign of no set", [][]byte{keys.signing, note, m, random}, api.ErrArg, signBut(-p.set)}, call{"Sign with a short key", [][]byte{keys.signing[1:], note, m, random}, api.ErrSize, signBut(p.set)},
			call{"Sign by chance of fewer", [][]byte{keys.signing, note, m, random[:31]}, api.ErrSize, signBut(p.set)}, call{"Sign of a long note", [][]byte{keys.signing, long, m, random}, api.ErrSize, signBut(p.set)},
			call{"Sign beyond eta", [][]byte{p.withSmall(keys.signing, 0, 5, 2*p.eta+1), note, m, random}, api.ErrForm, signBut(p.set)},
			call{"Verify of no set", [][]byte{keys.verify, note, m, sig}, api.ErrArg, verifyBut(0)}, call{"Verify with a short key", [][]byte{keys.verify[1:], note, m, sig}, api.ErrSize, verifyBut(p.set)},
			call{"Verify of fewer", [][]byte{keys.verify, note, m, sig[1:]}, api.ErrSize, verifyBut(p.set)}, call{"Verify of a long note", [][]byte{keys.verify, long, m, sig}, api.ErrSize, verifyBut(p.set)},
			call{"Verify of bad hints", [][]byte{keys.verify, note, m, p.badHints(sig)}, api.ErrForm, verifyBut(p.set)}, call{"Verify of great numbers", [][]byte{keys.verify, note, m, great}, api.ErrSign, verifyBut(p.set)},
			call{"Verify of another message", [][]byte{keys.verify, note, note, sig}, api.ErrSign, verifyBut(p.set)},
			call{"Public of no set", [][]byte{keys.signing}, api.ErrArg, publicBut(4)}, call{"Public of fewer", [][]byte{keys.signing[1:]}, api.ErrSize, publicBut(p.set)},
			call{"Public beyond eta", [][]byte{p.withSmall(keys.signing, p.l, 5, 2*p.eta+1)}, api.ErrForm, publicBut(p.set)})
	}
	return found
}

// tooFar is a call that takes all turns.
func tooFar() call {
	p := rows()[0]
	ask := drawnAsked(1)
	return call{"Sign, right in no turn", [][]byte{p.farKey(4096), ask.note, ask.m, ask.random}, api.ErrOver, signBut(p.set)}
}

// answers are calls that answer no error.
func answers() []call {
	note, m, random := drawnBytes(1, 255), drawnBytes(2, 100), drawnBytes(3, 32)
	found := []call{{"Digest", [][]byte{drawnBytes(1, 1312), note, m}, api.OK, digestOf}, {"Digest of nil", [][]byte{nil, nil, nil}, api.OK, digestOf}}
	for _, p := range rows() {
		keys := p.keys(1)
		sig := must(p.sign(keys.signing, asked{note, m, random}))
		found = append(found, call{"Keys", [][]byte{random}, api.OK, keysBut(p.set)}, call{"Sign", [][]byte{keys.signing, note, m, random}, api.OK, signBut(p.set)},
			call{"Sign of nil", [][]byte{keys.signing, nil, nil, random}, api.OK, signBut(p.set)}, call{"Verify", [][]byte{keys.verify, note, m, sig}, api.OK, verifyBut(p.set)}, call{"Public", [][]byte{keys.signing}, api.OK, publicBut(p.set)})
	}
	return found
}

func every() []call { return append(answers(), refusals()...) }

// Each error wraps a Fault of the Errno that is named and of no other; beside it there is nothing.
func TestErrors(t *testing.T) {
	for _, c := range append(refusals(), tooFar()) {
		told, e := c.ask(c.in)
		var fault *api.Fault
		if !errors.As(e, &fault) || fault.Code != c.want || !errors.Is(e, c.want) || api.Code(e) != c.want {
			t.Errorf("P13.1 to P13.3: %s: %v is no Fault of %v", c.name, e, c.want)
			continue
		}
		for other := api.OK; other <= api.ErrWait; other++ {
			if other != c.want && errors.Is(e, other) {
				t.Errorf("P13.1 to P13.3: %s: %v is told to be %v too", c.name, e, other)
			}
		}
		if len(slices.Concat(told...)) != 0 {
			t.Errorf("R2: %s tells %x beside an error", c.name, told)
		}
		if inner := errors.Unwrap(e); inner == nil || !errors.Is(inner, fault) || e.Error() == fault.Error() {
			t.Errorf("P13.1 to P13.3: %s: %v does not wrap its Fault", c.name, e)
		}
	}
}

// A Fault that is written over stays what other answers have.
func TestErrorsAreNew(t *testing.T) {
	for _, c := range refusals() {
		var fault *api.Fault
		_, first := c.ask(c.in)
		_, kept := c.ask(c.in)
		if errors.As(first, &fault) {
			fault.Code = api.ErrWait
		}
		if _, again := c.ask(c.in); !is(kept, c.want) || !is(again, c.want) {
			t.Errorf("R4: errors of %s share memory", c.name)
		}
	}
}

// withRoom are copies of lists, each with spare room behind it, which holds marks.
func withRoom(lists [][]byte, mark byte) [][]byte {
	var found [][]byte
	for _, b := range lists {
		found = append(found, slices.Concat(b, slices.Repeat([]byte{mark}, 200))[:len(b)])
	}
	return found
}

// whole is a copy of lists, with their spare room.
func whole(lists [][]byte) [][]byte {
	var found [][]byte
	for _, b := range lists {
		found = append(found, bytes.Clone(b[:cap(b)]))
	}
	return found
}

func overwrite(lists [][]byte) {
	for _, b := range lists {
		for i := range b[:cap(b)] {
			b[:cap(b)][i] ^= 255
		}
	}
}

func same(a [][]byte, b [][]byte) bool { return slices.EqualFunc(a, b, bytes.Equal) }

func copied(lists [][]byte) [][]byte {
	var found [][]byte
	for _, b := range lists {
		found = append(found, bytes.Clone(b))
	}
	return found
}

func TestWhatIsHandedInStays(t *testing.T) {
	for _, c := range every() {
		in := withRoom(c.in, 77)
		had := whole(in)
		told, e := c.ask(in)
		if !same(whole(in), had) || !is(e, c.want) {
			t.Errorf("R4: %s changes what it was given, or its spare room: %v", c.name, e)
		}
		overwrite(told)
		if !same(whole(in), had) {
			t.Errorf("R4: what %s tells shares memory with what it was given", c.name)
		}
	}
}

// What stands in spare room is none of a list.
func TestSpareRoomIsNotCounted(t *testing.T) {
	for _, c := range every() {
		want, _ := c.ask(copied(c.in))
		for _, mark := range []byte{0, 255} {
			if told, e := c.ask(withRoom(c.in, mark)); !same(told, want) || !is(e, c.want) {
				t.Errorf("R5: %s is another answer with spare room: %v", c.name, e)
			}
		}
	}
}

func TestAnswersShareNothing(t *testing.T) {
	for _, c := range every() {
		in := withRoom(c.in, 77)
		told, _ := c.ask(in)
		again, e := c.ask(in)
		want := copied(told)
		if !same(again, want) || !is(e, c.want) {
			t.Errorf("R5: %s tells another answer the second time: %v", c.name, e)
		}
		overwrite(again)
		overwrite(in)
		if !same(told, want) {
			t.Errorf("R4: what %s told is changed later", c.name)
		}
		if last, e := c.ask(copied(c.in)); !same(last, want) || !is(e, c.want) {
			t.Errorf("R5: %s tells another answer, once its lists were written over: %v", c.name, e)
		}
	}
}

// Neither key of one answer shares memory with the other, their spare room neither.
func TestKeysShareNothing(t *testing.T) {
	for _, p := range rows() {
		verify, signing, _ := Keys(p.set, drawnBytes(1, 32))
		want := bytes.Clone(signing)
		overwrite([][]byte{verify})
		if !bytes.Equal(signing, want) {
			t.Errorf("R4: the keys of set %d share memory", p.set)
		}
		verify, signing, _ = Keys(p.set, drawnBytes(1, 32))
		want = bytes.Clone(verify)
		overwrite([][]byte{signing})
		if !bytes.Equal(verify, want) {
			t.Errorf("R4: the keys of set %d share memory", p.set)
		}
	}
}

// One list for several of what is asked is as good as lists that are alike, or stand side by side.
func TestListsThatShareMemory(t *testing.T) {
	for _, p := range rows() {
		keys, one := p.keys(1), drawnBytes(1, 32)
		want := must(Sign(p.set, keys.signing, bytes.Clone(one), bytes.Clone(one), bytes.Clone(one)))
		if sig, e := Sign(p.set, keys.signing, one, one, one); e != nil || !bytes.Equal(sig, want) {
			t.Errorf("R4: Sign(%d) of one list for all is another signature: %v", p.set, e)
		}
		all := slices.Concat(keys.verify, one, one, want)
		behind := p.verify + 64
		if e := Verify(p.set, all[:p.verify], all[p.verify:p.verify+32], all[p.verify+32:behind], all[behind:]); e != nil {
			t.Errorf("R4: Verify(%d) of lists side by side: %v", p.set, e)
		}
		if !bytes.Equal(all, slices.Concat(keys.verify, one, one, want)) {
			t.Errorf("R4: Verify(%d) changes lists side by side", p.set)
		}
	}
}

// What was refused, and what was answered, leaves each other call as it was.
func TestAskedAgainBehindOthers(t *testing.T) {
	all := every()
	var want [][][]byte
	for _, c := range all {
		told, _ := c.ask(c.in)
		want = append(want, told)
	}
	for i, c := range slices.Backward(all) {
		if told, e := c.ask(c.in); !same(told, want[i]) || !is(e, c.want) {
			t.Errorf("R5: %s tells another answer behind others: %v", c.name, e)
		}
	}
}

func TestManyAtOnce(t *testing.T) {
	for i, c := range every() {
		t.Run(strconv.Itoa(i)+" "+c.name, func(t *testing.T) {
			want, _ := c.ask(c.in)
			var all sync.WaitGroup
			for range 8 {
				all.Go(func() {
					for range 3 {
						if told, e := c.ask(c.in); !same(told, want) || !is(e, c.want) {
							t.Errorf("R5: %s tells another answer beside other calls", c.name)
						}
					}
				})
			}
			all.Wait()
		})
	}
}
