package part

import (
	"math/bits"
	"slices"

	"sextant/api"
)

// sum has its lower word first. It has room for the weights of a list that may be, however much each of them is.
type sum [2]uint64

func (s sum) plus(weight uint64) sum {
	low, carry := bits.Add64(s[0], weight, 0)
	return sum{low, s[1] + carry}
}

// weigh asks for the size first, so that no list is gone through that is longer than one may be.
func weigh(l []api.Part) (uint64, api.Errno) {
	lacks := func(p api.Part) bool { return len(p.Root) != api.DigestSize || p.Weight == 0 }
	if len(l) == 0 || len(l) > api.MaxParts || slices.ContainsFunc(l, lacks) {
		return 0, api.ErrArg
	}
	var total sum
	for _, p := range l {
		total = total.plus(p.Weight)
	}
	if total[1] > 0 {
		return 0, api.ErrArg
	}
	return total[0], api.OK
}
