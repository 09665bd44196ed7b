package ladder

import (
	"math/bits"

	"sextant/api"
)

// rounds are those for which some keys sign, each one for as many as its life is.
type rounds struct{ first, life, keys uint64 }

func (r rounds) mayBe() bool { return r.life > 0 && r.keys > 0 && r.keys <= api.MaxKeys }

func (r rounds) runOver() bool {
	high, low := bits.Mul64(r.life, r.keys)
	_, carry := bits.Add64(r.first, low, 0)
	return high > 0 || carry > 0
}

// keyOf reckons from the round downwards, as the round behind the last one may be more than a number can be. It is to be asked of rounds that may be alone.
func (r rounds) keyOf(round uint64) (uint64, bool) {
	if round < r.first {
		return 0, false
	}
	key := (round - r.first) / r.life
	if key >= r.keys {
		return 0, false
	}
	return key, true
}

func (r rounds) keyOrError(round uint64) (uint64, api.Errno) {
	key, is := r.keyOf(round)
	return key, errorUnless(is, api.ErrRound)
}
