package ladder

import (
	"sextant/api"
	"sextant/dom"
	"sextant/multi"
	"sextant/proof"
	"sextant/tree"
	"sextant/wots"
)

// rungs is a ladder's tree, by a type of its own: a ladder that embeds a tree.Tree would hand all that this has on to everybody.
type rungs struct{ tree *tree.Tree }

func rungsOf(seed string, keys int) (rungs, api.Errno) {
	elements := make([]string, keys)
	for i := range elements {
		key := uint64(i)
		elements[i] = rung(key, wots.Public(seed, key))
	}
	built, e := tree.Build(elements)
	return rungs{built}, e
}

func (r rungs) root() string { return r.tree.Root() }

func (r rungs) path(key uint64) ([]string, api.Errno) {
	return multi.Prove(r.tree, []uint64{key})
}

// rung has the key's number in it, so that no key's public text stands for another key.
func rung(key uint64, public string) string { return dom.Num(key) + public }

// leadsTo holds the root that comes of the signature against p's.
func leadsTo(p api.Part, digest string, sig api.Sig) bool {
	public, e := wots.Recover(sig.Wots, digest)
	if e != api.OK {
		return false
	}
	e = proof.Check(p.Root, int(p.Keys), []uint64{sig.Index}, []string{rung(sig.Index, public)}, sig.Path)
	return e == api.OK
}
