package unpack

import (
	"errors"

	"sextant/api"
)

// attempt has a copy read ahead, so that the reader stays where it is unless nothing was given up.
func (r *Reader) attempt(read func(ahead *Reader)) (err error) {
	if r == nil {
		return &api.Fault{Code: api.ErrNil}
	}
	defer func() {
		if wrong, ok := recover().(error); ok {
			err = r.fault(wrong)
		}
	}()
	ahead := *r
	read(&ahead)
	*r = ahead
	return nil
}

// giveUp ends an attempt from any depth: what is asked behind it may take for granted that all ahead of it was well.
func giveUp(code api.Errno) { panic(&api.Fault{Code: code}) }

// fault tells what was given up at the thing's first byte, where the reader still stands. What giveUp did not give up
// would be a mistake of this package, and must not pass for something that was read.
func (r *Reader) fault(wrong error) error {
	code := api.ErrOther
	var given *api.Fault
	if errors.As(wrong, &given) {
		code = given.Code
	}
	return &api.Fault{Code: code, At: r.place}
}

func (r *Reader) take(n int) string {
	if n > len(r.bytes)-r.place {
		giveUp(api.ErrShort)
	}
	from := r.place
	r.place += n
	return r.bytes[from:r.place]
}

// number is the number that a thing of that sort is, or that tells how many it counts.
func (r *Reader) number(sort int) uint64 {
	first := r.take(1)[0]
	of := rowOf(sort, first)
	n := uint64(first - of.first)
	for _, b := range []byte(r.take(of.size)) {
		n = n<<8 | uint64(b)
	}
	if n < of.least {
		giveUp(api.ErrForm)
	}
	return n
}

func (r *Reader) length(sort int) int {
	n := r.number(sort)
	if n > uint64(r.most) {
		giveUp(api.ErrLong)
	}
	return int(n)
}
