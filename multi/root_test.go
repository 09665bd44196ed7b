package multi_test

import (
	"math/rand"
	"slices"
	"testing"

	"sextant/api"
	"sextant/dom"
	"sextant/multi"
	"sextant/tree"
)

// wantRoot asks that a proof and the elements at the positions give the tree's root.
func wantRoot(t *testing.T, x *tree.Tree, elements []string, positions []uint64) {
	t.Helper()
	if got := climbed(len(elements), shown(elements, positions), proven(t, x, positions)); got != x.Root() {
		t.Errorf("of %d elements at %.100v comes the root %x, not %x", len(elements), positions, got, x.Root())
	}
}

// P10.3: the root comes of each set of positions of the small trees.
func TestRootOfSmallTrees(t *testing.T) {
	for n := range 12 {
		elements := named(n)
		x := built(t, elements...)
		eachSet(n, func(positions []uint64) { wantRoot(t, x, elements, positions) })
	}
}

// P10.3: the root comes of one, of some and of all positions of the great trees.
func TestRootOfGreatTrees(t *testing.T) {
	for _, n := range []int{63, 64, 65, 1000, 4097, 32769, 65535, api.MaxParts} {
		elements := named(n)
		x := built(t, elements...)
		for _, positions := range sets(n) {
			wantRoot(t, x, elements, positions)
		}
	}
}

// P10.3: the root, level by level, written out: what is known and the next digests give what is known a level higher.
func TestRootWrittenOut(t *testing.T) {
	x := built(t, "a", "b", "c", "d", "e")
	p := proven(t, x, []uint64{1, 4})
	if len(p) != 4 {
		t.Fatalf("the proof has %d digests, not 4", len(p))
	}
	b, e := dom.Hash("leaf", "b"), dom.Hash("leaf", "e")
	low, high := dom.Hash("node", p[0], e), dom.Hash("node", b, p[1]) // e stands at the leaf 1, b at 4
	if root := dom.Hash("node", dom.Hash("node", low, p[2]), dom.Hash("node", high, p[3])); root != x.Root() {
		t.Errorf("the root comes as %x, not %x", root, x.Root())
	}
}

// P10.3: with another element at one of the positions another root comes.
func TestOtherElementsGiveOtherRoots(t *testing.T) {
	elements := named(7)
	x := built(t, elements...)
	eachSet(7, func(positions []uint64) {
		proof := proven(t, x, positions)
		for _, i := range positions {
			others := shown(elements, positions)
			others[i] = "another one"
			if climbed(7, others, proof) == x.Root() {
				t.Errorf("at %v the root comes of another element at %d", positions, i)
			}
		}
	})
}

// P10.3: no digest of a proof is idle: with another one, or without it, the root does not come.
func TestEachDigestIsNeeded(t *testing.T) {
	for n := 2; n <= 9; n++ {
		elements := named(n)
		x := built(t, elements...)
		eachSet(n, func(positions []uint64) {
			proof := proven(t, x, positions)
			for i := range proof {
				other := slices.Clone(proof)
				other[i] = dom.Hash("another")
				without := slices.Delete(slices.Clone(proof), i, i+1)
				for _, wrong := range [][]string{other, without} {
					if climbed(n, shown(elements, positions), wrong) == x.Root() {
						t.Errorf("of %d elements at %v the digest %d is not needed", n, positions, i)
					}
				}
			}
		})
	}
}

// P10.3: a proof of one element has as many digests as the tree is deep.
func TestProofsOfOneAreAsLongAsTheTreeIsDeep(t *testing.T) {
	ask := func(x *tree.Tree, i uint64) {
		if proof := proven(t, x, []uint64{i}); len(proof) != x.Depth() {
			t.Errorf("the proof of %d of %d elements has %d digests, not %d", i, x.Len(), len(proof), x.Depth())
		}
		wantSize(t, x.Len(), []uint64{i}, x.Depth())
	}
	for n := range 70 {
		x := built(t, named(n)...)
		for i := range uint64(n) {
			ask(x, i)
		}
	}
	greatest := built(t, make([]string, api.MaxParts)...)
	for i := uint64(0); i < api.MaxParts; i += 97 {
		ask(greatest, i)
	}
	ask(greatest, api.MaxParts-1)
}

// wantNoLonger asks that a proof, and its size, is no longer than the proofs of each of its elements together.
func wantNoLonger(t *testing.T, x *tree.Tree, positions []uint64) {
	t.Helper()
	together := 0
	for _, i := range positions {
		together += len(proven(t, x, []uint64{i}))
	}
	size, e := multi.Size(x.Len(), positions)
	if long := len(proven(t, x, positions)); e != api.OK || long != size || long > together {
		t.Errorf("a proof of %d elements at %.100v has %d digests, its Size is %d, %v; those of each have %d", x.Len(), positions, long, size, e, together)
	}
}

// P10.3: a proof of more than one element has no more digests than the proofs of each together.
func TestProofsOfMoreAreNoLonger(t *testing.T) {
	for n := 1; n <= 11; n++ {
		x := built(t, named(n)...)
		eachSet(n, func(positions []uint64) { wantNoLonger(t, x, positions) })
	}
	draw := rand.New(rand.NewSource(10))
	for _, n := range []int{33, 100, 1000, 65536} {
		x := built(t, named(n)...)
		for range 30 {
			wantNoLonger(t, x, drawn(draw, n, 1+draw.Intn(200)))
		}
	}
}

// P10.2, P10.3: Size is how many digests Prove answers, of each number of elements up to some.
func TestSizeIsAsLongAsTheProof(t *testing.T) {
	draw := rand.New(rand.NewSource(11))
	for n := 1; n <= 300; n++ {
		x := built(t, make([]string, n)...)
		for range 10 {
			positions := drawn(draw, n, 1+draw.Intn(n))
			wantSize(t, n, positions, len(proven(t, x, positions)))
		}
	}
}
