// Package fault makes the errors that several layers answer.
package fault

import "chatelaine/api"

// wrapped is an error of a call: what it found, or was answered.
type wrapped struct {
	call  string
	cause error
}

// Error tells it in words.
func (w *wrapped) Error() string { return w.call + ": " + w.cause.Error() }

// Unwrap is what the call found.
func (w *wrapped) Unwrap() error { return w.cause }

// Wrap is the error of a call that found a cause; nil of nil.
func Wrap(call string, cause error) error {
	if cause == nil {
		return nil
	}
	return &wrapped{call: call, cause: cause}
}

// Size is ErrSize, unless b has so many bytes.
func Size(name string, b []byte, want int) error {
	if len(b) != want {
		return &api.Fault{Code: api.ErrSize, Where: name}
	}
	return nil
}
