package wire

import (
	"slices"

	"sextant/api"
	"sextant/pack"
)

// field is what stands under a key of a map: it lays what a thing has there, and reads into it.
type field struct {
	key    string
	needed bool        // never left out
	there  func() bool // not zero
	lay    func(w *pack.Writer)
	read   func(r reader)
}

func (f field) told() bool { return f.needed || f.there() }

func (f field) lacking() bool { return f.needed && !f.there() }

func always(f field) field {
	f.needed = true
	return f
}

func number(key string, at *uint64) field {
	return field{
		key:   key,
		there: func() bool { return *at != 0 },
		lay:   func(w *pack.Writer) { layNumber(w, *at) },
		read:  func(r reader) { *at = r.number() },
	}
}

func yes(key string, at *bool) field {
	return field{
		key:   key,
		there: func() bool { return *at },
		lay:   func(w *pack.Writer) { layNumber(w, 1) },
		read:  func(r reader) { *at = r.number() == 1 },
	}
}

func digest(key string, at *string) field {
	return always(field{
		key:   key,
		there: func() bool { return *at != "" },
		lay:   func(w *pack.Writer) { layDigest(w, *at) },
		read:  func(r reader) { *at = r.digest() },
	})
}

func thing(key string, row []field) field {
	return field{
		key:   key,
		there: func() bool { return slices.ContainsFunc(row, func(f field) bool { return f.there() }) },
		lay:   func(w *pack.Writer) { layRow(w, row) },
		read:  func(r reader) { r.row(row) },
	}
}

// list asks how many there are ahead of what is in it, so that nobody has more read than there may be.
func list[T any](key string, at *[]T, most int, lay func(w *pack.Writer, x T), read func(r reader) T) field {
	return field{
		key:   key,
		there: func() bool { return len(*at) > 0 },
		lay: func(w *pack.Writer) {
			must(len(*at) <= most, api.ErrArg)
			w.List(len(*at))
			for _, x := range *at {
				lay(w, x)
			}
		},
		read: func(r reader) {
			n := sure(r.List())
			must(n <= most, api.ErrLong)
			for range n {
				*at = append(*at, read(r))
			}
		},
	}
}

func numbers(key string, at *[]uint64, most int) field {
	return list(key, at, most, layNumber, reader.number)
}

func digests(key string, at *[]string, most int) field {
	return list(key, at, most, layDigest, reader.digest)
}

func things[T any](key string, at *[]T, most int, rowOf func(x *T) []field) field {
	lay := func(w *pack.Writer, x T) { layRow(w, rowOf(&x)) }
	read := func(r reader) (x T) {
		r.row(rowOf(&x))
		return x
	}
	return list(key, at, most, lay, read)
}
