package unpack

import (
	"errors"
	"testing"

	"sextant/api"
)

// P6.2: whatever ends an attempt ahead of its end, the reader stays, and the answer is a fault at its place.
func TestAttempt(t *testing.T) {
	lack := errors.New("not one of ours")
	var none []int
	ends := []struct {
		what string
		read func(ahead *Reader)
		code api.Errno
	}{
		{"a fault", func(*Reader) { giveUp(api.ErrLong) }, api.ErrLong},
		{"a fault behind bytes", func(ahead *Reader) { ahead.take(2); giveUp(api.ErrForm) }, api.ErrForm},
		{"bytes that are lacking", func(ahead *Reader) { ahead.take(1); ahead.take(3) }, api.ErrShort},
		{"an error that is no fault", func(ahead *Reader) { ahead.take(1); panic(lack) }, api.ErrOther},
		{"an error of the language", func(ahead *Reader) { ahead.take(1 + none[ahead.place]) }, api.ErrOther},
	}
	for _, e := range ends {
		r := New("\x01\x02\x03\x04", 9)
		r.Num()
		err := r.attempt(e.read)
		var f *api.Fault
		if !errors.As(err, &f) || f.Code != e.code || f.At != 1 {
			t.Errorf("%s: the answer is %v, not %v At 1", e.what, err, e.code)
		}
		if n, err := r.Num(); n != 2 || err != nil {
			t.Errorf("%s: the next number is %d, %v", e.what, n, err)
		}
	}
}
