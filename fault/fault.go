// Package fault makes the errors that several layers answer.
package fault

import "chatelaine/api"

// wrapped is an error of a call: what it found, or was answered.
type wrapped struct {
	call  string
	cause error
}

// Error tells it in words.
func (w *wrapped) Error() string { return w.call + ": " + w.cause.Error() }

// Unwrap is what the call found.
func (w *wrapped) Unwrap() error { return w.cause }

// Wrap is the error of a call that found a cause; nil of nil.
func Wrap(call string, cause error) error {
	if cause == nil {
		return nil
	}
	return &wrapped{call: call, cause: cause}
}

// Unless is an error with that code, of that part of what was given; nil, if ok.
func Unless(ok bool, code api.Errno, where string) error {
	if ok {
		return nil
	}
	return &api.Fault{Code: code, Where: where}
}

// Size is ErrSize, unless b has so many bytes.
func Size(name string, b []byte, want int) error {
	return Unless(len(b) == want, api.ErrSize, name)
}
