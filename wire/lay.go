package wire

import (
	"slices"

	"sextant/api"
	"sextant/pack"
)

func lay(row []field) (bytes string, e api.Errno) {
	defer func() {
		if wrong, ok := recover().(error); ok {
			bytes, e = "", faultOf(wrong).Code
		}
	}()
	w := pack.New()
	layRow(w, row)
	return w.Text(), api.OK
}

func layRow(w *pack.Writer, row []field) {
	told := slices.DeleteFunc(slices.Clone(row), func(f field) bool { return !f.told() })
	w.Map(len(told))
	for _, f := range told {
		w.Str(f.key)
		f.lay(w)
	}
}

func layNumber(w *pack.Writer, n uint64) { w.Num(n) }

func layDigest(w *pack.Writer, d string) {
	must(len(d) == api.DigestSize, api.ErrArg)
	w.Bin(d)
}
