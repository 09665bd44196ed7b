package wide

import (
	"cmp"
	"math"
	"math/bits"
)

const limbBits = 64

// number is one of any size, so that what is done to limbs is written once.
type number interface {
	U128 | U256 | U512
}

func compare[N number](a, b N) int {
	for i := len(a) - 1; i >= 0; i-- {
		if a[i] != b[i] {
			return cmp.Compare(a[i], b[i])
		}
	}
	return 0
}

func bitLen[N number](a N) int {
	for i := len(a) - 1; i >= 0; i-- {
		if a[i] != 0 {
			return i*limbBits + bits.Len64(a[i])
		}
	}
	return 0
}

// limbByLimb hands each step what the one below it carried, or borrowed, and tells whether the last one did.
func limbByLimb[N number](a, b N, step func(x, y, carry uint64) (result, carried uint64)) (N, bool) {
	var all N
	var carry uint64
	for i := 0; i < len(a); i++ {
		all[i], carry = step(a[i], b[i], carry)
	}
	return all, carry != 0
}

// up needs no other case where n has no bits beside whole limbs: a limb that is moved by all its bits is 0.
func up[N number](a N, n uint) N {
	var moved N
	limbs, part := int(n/limbBits), n%limbBits
	for i := limbs; i < len(a); i++ {
		moved[i] = a[i-limbs] << part
		if i > limbs {
			moved[i] |= a[i-limbs-1] >> (limbBits - part)
		}
	}
	return moved
}

func down[N number](a N, n uint) N {
	var moved N
	limbs, part := int(n/limbBits), n%limbBits
	for i := limbs; i < len(a); i++ {
		moved[i-limbs] = a[i] >> part
		if i+1 < len(a) {
			moved[i-limbs] |= a[i+1] << (limbBits - part)
		}
	}
	return moved
}

// digit is the quotient, one limb, and the rest; a is a rest by b and one limb below it, so that more than a limb can't come.
func digit(a U512, b U256) (q uint64, r U256) {
	q = guess(a, b)
	product := b.Mul(U256{q})
	for compare(product, a) > 0 {
		q--
		product, _ = limbByLimb(product, U512{b[0], b[1], b[2], b[3]}, bits.Sub64)
	}
	rest, _ := limbByLimb(a, product, bits.Sub64)
	r, _ = rest.Low()
	return q, r
}

// guess divides by b's highest bits alone: that is never too small, and, as b is moved up to have them all in its highest limb, too great by two at most.
func guess(a U512, b U256) uint64 {
	room := uint(len(b)*limbBits - bitLen(b))
	a, b = up(a, room), up(b, room)
	if a[4] >= b[3] {
		return math.MaxUint64
	}
	q, _ := bits.Div64(a[4], a[3], b[3])
	return q
}
