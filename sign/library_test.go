package sign

import (
	"bytes"
	"crypto/mldsa"
	"testing"

	"chatelaine/api"
)

// libraryKey is a key of the library, ML-DSA of FIPS 204.
func (p row) libraryKey(t *testing.T, seed []byte) *mldsa.PrivateKey {
	params := []mldsa.Parameters{mldsa.MLDSA44(), mldsa.MLDSA65(), mldsa.MLDSA87()}[p.set-1]
	key, e := mldsa.NewPrivateKey(params, seed)
	if e != nil {
		t.Fatal(e)
	}
	return key
}

func TestKeysOfTheLibrary(t *testing.T) {
	for _, p := range rows() {
		for k, seed := range seeds(40) {
			verify, signing, e := Keys(p.set, seed)
			want := p.libraryKey(t, seed).PublicKey().Bytes()
			if e != nil || !bytes.Equal(verify, want) {
				t.Errorf("P13.1: key %d of set %d is another one than the library's: %v", k, p.set, e)
			}
			if again, e := Public(p.set, signing); e != nil || !bytes.Equal(again, want) {
				t.Errorf("P13.3: Public(%d) of key %d is another one than the library's: %v", p.set, k, e)
			}
		}
	}
}

// Without chance, random being zeros, a signature is the library's.
func TestSignaturesOfTheLibrary(t *testing.T) {
	for _, p := range rows() {
		for k, seed := range seeds(40) {
			_, signing, e := Keys(p.set, seed)
			key, ask := p.libraryKey(t, seed), drawnAsked(6*k)
			want, x := key.SignDeterministic(ask.m, &mldsa.Options{Context: string(ask.note)})
			sig, y := Sign(p.set, signing, ask.note, ask.m, make([]byte, 32))
			if e != nil || x != nil || y != nil || !bytes.Equal(sig, want) {
				t.Errorf("P13.2: signature %d of set %d is another one than the library's: %v, %v, %v", k, p.set, e, x, y)
			}
			if e := Verify(p.set, key.PublicKey().Bytes(), ask.note, ask.m, want); e != nil {
				t.Errorf("P13.3: signature %d of the library, set %d: %v", k, p.set, e)
			}
		}
	}
}

// What is signed by chance the library takes; what it refuses is refused.
func TestVerifyAsTheLibrary(t *testing.T) {
	for _, p := range rows() {
		for k := range 12 {
			keys, ask := p.keys(k), drawnAsked(9*k)
			key, context := p.libraryKey(t, drawnBytes(k, 32)).PublicKey(), &mldsa.Options{Context: string(ask.note)}
			sig := must(p.sign(keys.signing, ask))
			if e := mldsa.Verify(key, ask.m, sig, context); e != nil {
				t.Errorf("P13.2: the library refuses signature %d of set %d: %v", k, p.set, e)
			}
			for at := k; at < p.sig; at += 97 {
				odd := changed(sig, at, byte(1+k))
				if e, x := p.check(keys.verify, ask, odd), mldsa.Verify(key, ask.m, odd, context); (e == nil) != (x == nil) || !is(e, api.ErrSign) && !is(e, api.ErrForm) {
					t.Errorf("P13.3: signature %d of set %d, byte %d changed: %v, the library: %v", k, p.set, at, e, x)
				}
			}
		}
	}
}
