package wire

import (
	"slices"

	"sextant/api"
	"sextant/unpack"
)

// bound is a reader's: of the bytes of texts, and of how many things follow.
const bound = 10240

// reader gives up what it finds wrong: what is read behind may take for granted that all ahead of it was well.
type reader struct {
	*unpack.Reader
}

func read[T any](s string, rowOf func(x *T) []field) (x T, err error) {
	defer func() {
		if wrong, ok := recover().(error); ok {
			var none T
			x, err = none, faultOf(wrong)
		}
	}()
	r := reader{unpack.New(s, bound)}
	r.row(rowOf(&x))
	if wrong := r.End(); wrong != nil {
		panic(wrong)
	}
	return x, nil
}

// row reads a map. What is told is never zero, so whatever is needed and still is zero at the end was not there.
func (r reader) row(row []field) {
	left := row
	for range sure(r.Map()) {
		key := sure(r.Str())
		at := slices.IndexFunc(left, func(f field) bool { return f.key == key })
		must(at >= 0, api.ErrForm)
		left[at].read(r)
		must(left[at].there(), api.ErrForm)
		left = left[at+1:]
	}
	must(!slices.ContainsFunc(row, field.lacking), api.ErrForm)
}

func (r reader) number() uint64 { return sure(r.Num()) }

func (r reader) digest() string {
	d := sure(r.Bin())
	must(len(d) == api.DigestSize, api.ErrForm)
	return d
}
