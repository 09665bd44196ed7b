package wots

import (
	"iter"

	"sextant/api"
	"sextant/chain"
	"sextant/dom"
)

const (
	secretTag = "secret"
	publicTag = "public"
	first     = 0
	last      = api.Steps - 1
)

// standing tells what stands at a place of a chain, so that ends are gathered the same way for who has the key and for who has a signature alone.
type standing func(i, place int) string

type key struct {
	seed  string
	index uint64
}

func (k key) stands(i, place int) string {
	secret := dom.Hash(secretTag, k.seed, dom.Num(k.index), string([]byte{byte(i)}))
	return chain.Walk(i, first, place, secret)
}

// shown is a signature, and a digest's digits, at which its texts are taken to stand.
type shown struct {
	sig    []string
	digits []int
}

// stands is not to be asked of a place ahead of the chain's digit: no walk goes back there.
func (s shown) stands(i, place int) string {
	return chain.Walk(i, s.digits[i], place, s.sig[i])
}

func public(stands standing) string {
	return dom.Hash(publicTag, gathered(stands, ends())...)
}

// ends tells each chain, with the place at which it ends.
func ends() iter.Seq2[int, int] {
	return func(yield func(i, place int) bool) {
		for i := range api.Chains {
			if !yield(i, last) {
				return
			}
		}
	}
}

func gathered(stands standing, places iter.Seq2[int, int]) []string {
	texts := make([]string, 0, api.Chains)
	for i, place := range places {
		texts = append(texts, stands(i, place))
	}
	return texts
}
