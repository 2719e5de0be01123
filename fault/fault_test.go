package fault

import (
	"errors"
	"strings"
	"testing"

	"chatelaine/api"
)

func TestWrapOfNone(t *testing.T) {
	if e := Wrap("call", nil); e != nil {
		t.Errorf("Wrap of nil is %v", e)
	}
}

func TestWrapKeepsItsCause(t *testing.T) {
	cause := &api.Fault{Code: api.ErrForm, Where: "inner"}
	e := Wrap("outer", Wrap("middle", cause))
	var found *api.Fault
	if !errors.As(e, &found) || found != cause || !errors.Is(e, api.ErrForm) || errors.Is(e, api.ErrSize) || api.Code(e) != api.ErrForm {
		t.Errorf("%v is not the Fault that it wraps", e)
	}
	for _, word := range []string{"outer", "middle", cause.Error()} {
		if !strings.Contains(e.Error(), word) {
			t.Errorf("%v tells nothing of %q", e, word)
		}
	}
}

func TestUnless(t *testing.T) {
	for code := api.ErrNil; code <= api.ErrWait; code++ {
		if e := Unless(true, code, "part"); e != nil {
			t.Errorf("Unless all is well: %v", e)
		}
		e := Unless(false, code, "part")
		var found *api.Fault
		if !errors.As(e, &found) || found.Code != code || found.Where != "part" || !errors.Is(e, code) {
			t.Errorf("Unless of %v is %v", code, e)
		}
	}
}

func TestSize(t *testing.T) {
	for n := range 6 {
		for want := -1; want < 6; want++ {
			e := Size("bytes", make([]byte, n, 9), want)
			var found *api.Fault
			if (n == want) != (e == nil) || e != nil && (!errors.As(e, &found) || found.Code != api.ErrSize || found.Where != "bytes") {
				t.Errorf("Size of %d bytes, where there are to be %d: %v", n, want, e)
			}
		}
	}
	if Size("bytes", nil, 0) != nil || Size("bytes", nil, 1) == nil {
		t.Error("Size of none at all is not that of no bytes")
	}
}

// A Fault that is written over stays what other answers have.
func TestErrorsAreNew(t *testing.T) {
	for name, ask := range map[string]func() error{
		"Size":   func() error { return Size("bytes", nil, 1) },
		"Unless": func() error { return Unless(false, api.ErrSize, "bytes") },
	} {
		first, kept := ask(), ask()
		var found *api.Fault
		if errors.As(first, &found) {
			found.Code = api.ErrWait
		}
		if !errors.Is(kept, api.ErrSize) || !errors.Is(ask(), api.ErrSize) {
			t.Errorf("errors of %s share memory", name)
		}
	}
}
