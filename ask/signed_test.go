package ask

import (
	"bytes"
	"crypto/mldsa"
	"errors"
	"slices"
	"strings"
	"testing"

	"chatelaine/api"
	"chatelaine/bits"
	"chatelaine/sign"
)

const sigSize = 2420 // of set 1

// pair is the keys of a person.
type pair struct{ verify, signing []byte }

func keysOf(k int) pair {
	verify, signing, e := sign.Keys(1, mixed(32, k))
	if e != nil {
		panic(e)
	}
	return pair{verify, signing}
}

// signedBy is what Signed is to tell.
func signedBy(keys pair, a api.Ask, random []byte) []byte {
	body := slowBody(a)
	sig, e := sign.Sign(1, keys.signing, []byte("chatelaine"), body, random)
	if e != nil {
		panic(e)
	}
	return slices.Concat(body, sig)
}

func TestSigned(t *testing.T) {
	for i, a := range unlike() {
		keys, random := keysOf(i%7), mixed(32, i)
		got, e := Signed(a, keys.signing, random)
		if e != nil || !bytes.Equal(got, signedBy(keys, a, random)) {
			t.Fatalf("P15.1: Signed of request %d: %v", i, e)
		}
		body, sig := got[:len(got)-sigSize], got[len(got)-sigSize:]
		if e := sign.Verify(api.SignSet, keys.verify, []byte("chatelaine"), body, sig); e != nil {
			t.Errorf("P15.1: the signature of request %d is refused: %v", i, e)
		}
		for _, note := range []string{"", "chatelain", "chatelaine ", "Chatelaine", "chatelaine\x00", "\x00chatelaine", "hatelaine"} {
			if e := sign.Verify(api.SignSet, keys.verify, []byte(note), body, sig); !is(e, api.ErrSign) {
				t.Errorf("P15.1: the signature of request %d is taken with the note %q", i, note)
			}
		}
		if e := sign.Verify(api.SignSet, keysOf(i%7+1).verify, []byte("chatelaine"), body, sig); !is(e, api.ErrSign) {
			t.Errorf("P15.1: the signature of request %d is taken by another key", i)
		}
	}
}

// What is signed the library's ML-DSA takes, too.
func TestSignedForTheLibrary(t *testing.T) {
	for i, a := range []api.Ask{good(), least(), greatest()} {
		keys := keysOf(i)
		got, e := Signed(a, keys.signing, mixed(32, i))
		if e != nil {
			t.Fatalf("P15.1: Signed: %v", e)
		}
		key, e := mldsa.NewPublicKey(mldsa.MLDSA44(), keys.verify)
		if e != nil {
			t.Fatal(e)
		}
		if e := mldsa.Verify(key, slowBody(a), got[len(got)-sigSize:], &mldsa.Options{Context: "chatelaine"}); e != nil {
			t.Errorf("P15.1: the library refuses the signature of request %d: %v", i, e)
		}
	}
}

// Another randomness makes another signature of the same body.
func TestSignedByChance(t *testing.T) {
	keys, seen := keysOf(1), map[string]bool{}
	for k := range 5 {
		got, e := Signed(good(), keys.signing, mixed(32, k))
		if e != nil || !bytes.HasPrefix(got, slowBody(good())) || seen[string(got)] {
			t.Errorf("P15.1: Signed by randomness %d: %v", k, e)
		}
		seen[string(got)] = true
	}
}

// beyondEta is a signing key of which no number of s1's first poly is one that may be.
func beyondEta() []byte {
	signing := bytes.Clone(keysOf(1).signing)
	for i := range 96 {
		signing[128+i] = 255
	}
	return signing
}

// rightInNoTurn is a signing key whose t0 has numbers as far from 0 as they can be, on either side: too many hints are 1.
func rightInNoTurn() []byte {
	signing, far := keysOf(1).signing, make([]int, 4*256)
	for i, b := range mixed(len(far), 1) {
		far[i] = int(b%2) * 8191
	}
	return slices.Concat(signing[:len(signing)-4*416], bits.Pack(13, far...))
}

// refusal is what Signed is asked of, and its error.
type refusal struct {
	name            string
	a               api.Ask
	signing, random []byte
	want            api.Errno
}

// refusals are all but the one that takes all turns.
func refusals() []refusal {
	keys, random, wrong := keysOf(1), mixed(32, 1), with(good(), func(a *api.Ask) { a.Op = api.OpTick })
	_, second, _ := sign.Keys(2, mixed(32, 1))
	_, third, _ := sign.Keys(3, mixed(32, 1))
	return []refusal{
		{"a request that may not be", wrong, keys.signing, random, api.ErrArg},
		{"a request that may not be, no key", wrong, nil, random, api.ErrArg},
		{"a request that may not be, no randomness", wrong, keys.signing, nil, api.ErrArg},
		{"a request that may not be, a short key", wrong, keys.signing[1:], random[1:], api.ErrArg},
		{"a request that may not be, a key beyond eta", wrong, beyondEta(), random, api.ErrArg},
		{"no request", api.Ask{}, keys.signing, random, api.ErrArg},
		{"a long name", with(good(), func(a *api.Ask) { a.Name = strings.Repeat("n", 301) }), keys.signing, random, api.ErrArg},
		{"no key", good(), nil, random, api.ErrSize},
		{"an empty key", good(), []byte{}, random, api.ErrSize},
		{"a key of a byte fewer", good(), keys.signing[1:], random, api.ErrSize},
		{"a key cut behind", good(), keys.signing[:2559], random, api.ErrSize},
		{"a key of a byte more", good(), append(bytes.Clone(keys.signing), 0), random, api.ErrSize},
		{"a verifying key", good(), keys.verify, random, api.ErrSize},
		{"a key of set 2", good(), second, random, api.ErrSize},
		{"a key of set 3", good(), third, random, api.ErrSize},
		{"no randomness", good(), keys.signing, nil, api.ErrSize},
		{"empty randomness", good(), keys.signing, []byte{}, api.ErrSize},
		{"randomness of 31", good(), keys.signing, random[:31], api.ErrSize},
		{"randomness of 33", good(), keys.signing, mixed(33, 1), api.ErrSize},
		{"randomness of 64", good(), keys.signing, mixed(64, 1), api.ErrSize},
		{"neither", good(), nil, nil, api.ErrSize},
		{"a key beyond eta", good(), beyondEta(), random, api.ErrForm},
		{"a key beyond eta, no randomness", good(), beyondEta(), nil, api.ErrSize},
	}
}

func TestSignedRefuses(t *testing.T) {
	for _, x := range append(refusals(), refusal{"a key that is right in no turn", good(), rightInNoTurn(), mixed(32, 1), api.ErrOver}) {
		got, e := Signed(x.a, x.signing, x.random)
		if len(got) != 0 || !is(e, x.want) {
			t.Errorf("P15.1: Signed with %s: %v, not %v", x.name, e, x.want)
			continue
		}
		_, cause := Body(x.a)
		if cause == nil {
			_, cause = sign.Sign(1, x.signing, []byte("chatelaine"), slowBody(x.a), x.random)
			if !is(cause, x.want) || !strings.Contains(e.Error(), cause.Error()) {
				t.Errorf("P15.1: Signed with %s: %v does not tell its cause, %v", x.name, e, cause)
			}
		}
		var f, of *api.Fault
		if !errors.As(e, &f) || !errors.As(cause, &of) || *f != *of {
			t.Errorf("P15.1: Signed with %s: %v is not the error of what it calls, %v", x.name, e, cause)
		}
	}
}
