package multi_test

import (
	"testing"

	"sextant/api"
	"sextant/dom"
	"sextant/layout"
)

// P10.1, P10.2: the chapter's examples.
func TestExamples(t *testing.T) {
	five := built(t, named(5)...)
	for _, row := range []struct {
		n, size   int
		positions []uint64
	}{
		{1, 0, []uint64{0}},
		{5, 3, []uint64{0}},
		{5, 4, []uint64{0, 1}},
		{5, 2, []uint64{0, 4}},
		{8, 0, []uint64{0, 1, 2, 3, 4, 5, 6, 7}},
	} {
		wantSize(t, row.n, row.positions, row.size)
		if proof := proven(t, built(t, named(row.n)...), row.positions); len(proof) != row.size {
			t.Errorf("a proof of %d elements at %v has %d digests, not %d", row.n, row.positions, len(proof), row.size)
		}
	}
	wantWrong(t, five, nil)
	wantWrong(t, five, []uint64{1, 0})
	wantWrong(t, five, []uint64{5})
}

// P10.1, P10.2: trees of none, one, two and three elements, at each set of positions, written out.
func TestSmallTreesWrittenOut(t *testing.T) {
	a, b, c, none := dom.Hash("leaf", "a"), dom.Hash("leaf", "b"), dom.Hash("leaf", "c"), dom.Hash("none")
	low, high := dom.Hash("node", a, c), dom.Hash("node", b, none)
	wantWrong(t, built(t), nil)
	wantWrong(t, built(t), []uint64{0})
	wantWrong(t, built(t), []uint64{0, 1})
	wantProof(t, built(t, "a"), []uint64{0})
	two := built(t, "a", "b")
	wantProof(t, two, []uint64{0}, b)
	wantProof(t, two, []uint64{1}, a)
	wantProof(t, two, []uint64{0, 1})
	three := built(t, "a", "b", "c")
	wantProof(t, three, []uint64{0}, c, high)
	wantProof(t, three, []uint64{1}, none, low)
	wantProof(t, three, []uint64{2}, a, high)
	wantProof(t, three, []uint64{0, 1}, c, none)
	wantProof(t, three, []uint64{0, 2}, high)
	wantProof(t, three, []uint64{1, 2}, a, none)
	wantProof(t, three, []uint64{0, 1, 2}, none)
}

// P10.1: digests come level by level, from the leaves on, and on each level rising, though the positions' leaves fall.
func TestOrderWrittenOut(t *testing.T) {
	leaf := func(element string) string { return dom.Hash("leaf", element) }
	node := func(low, high string) string { return dom.Hash("node", low, high) }
	eight := built(t, "a", "b", "c", "d", "e", "f", "g", "h") // at the leaves: a e c g b f d h
	wantProof(t, eight, []uint64{0}, leaf("e"), node(leaf("c"), leaf("g")), node(node(leaf("b"), leaf("f")), node(leaf("d"), leaf("h"))))
	wantProof(t, eight, []uint64{1, 2}, leaf("g"), leaf("f"), node(leaf("a"), leaf("e")), node(leaf("d"), leaf("h")))
	wantProof(t, eight, []uint64{1, 4}, leaf("a"), leaf("f"), node(leaf("c"), leaf("g")), node(leaf("d"), leaf("h")))
	wantProof(t, eight, []uint64{3, 5, 6}, leaf("c"), leaf("b"), leaf("h"), node(leaf("a"), leaf("e")))
	wantProof(t, eight, []uint64{0, 3, 4}, leaf("h"), node(leaf("c"), leaf("g")), node(leaf("b"), leaf("f")))
	wantProof(t, eight, []uint64{0, 2, 4, 6}, node(node(leaf("b"), leaf("f")), node(leaf("d"), leaf("h"))))
}

// P10.1, P10.2: each set of positions of each small number of elements, against a reference.
func TestEachSetOfSmallTrees(t *testing.T) {
	for n := range 12 {
		x := built(t, named(n)...)
		eachSet(n, func(positions []uint64) { wantProof(t, x, positions, reference(t, x, positions)...) })
	}
}

// P10.1, P10.2: each position alone, and each pair of them, of trees in which not all sets can be gone through.
func TestEachPairOfMiddleTrees(t *testing.T) {
	for _, n := range []int{15, 16, 17, 31, 32, 33, 40} {
		x := built(t, named(n)...)
		for i := range uint64(n) {
			wantProof(t, x, []uint64{i}, reference(t, x, []uint64{i})...)
			for j := i + 1; j < uint64(n); j++ {
				wantProof(t, x, []uint64{i, j}, reference(t, x, []uint64{i, j})...)
			}
		}
	}
}

// P10.1, P10.2: where the depth changes, up to as many elements as may be: one position, all, the first and the last one.
func TestGreatTrees(t *testing.T) {
	for _, n := range []int{63, 64, 65, 255, 256, 257, 1000, 4095, 4097, 32768, 32769, 65535, api.MaxParts} {
		x := built(t, named(n)...)
		for _, positions := range sets(n) {
			wantProof(t, x, positions, reference(t, x, positions)...)
		}
	}
}

// P10.1: of all elements only leaves at which none stands are needed, or places above such leaves alone.
func TestAllPositions(t *testing.T) {
	for _, n := range []int{1, 2, 4, 8, 16, 1024, 65536} {
		wantProof(t, built(t, named(n)...), each(n))
	}
	none := dom.Hash("none")
	wantProof(t, built(t, named(3)...), each(3), none)
	wantProof(t, built(t, named(5)...), each(5), none, none, none)
	wantProof(t, built(t, named(65535)...), each(65535), none)
}

// P10.1: elements that are alike, or of no bytes, are proven each at its own place.
func TestAlikeElements(t *testing.T) {
	for _, elements := range [][]string{{""}, {"", ""}, {"a", "a", "a"}, {"", "a", ""}, make([]string, 5), make([]string, 9)} {
		x := built(t, elements...)
		eachSet(len(elements), func(positions []uint64) { wantProof(t, x, positions, reference(t, x, positions)...) })
	}
}

// P10.1: digests are those of the places that layout says are needed, in its order.
func TestPlacesOfLayout(t *testing.T) {
	for _, n := range []int{1, 2, 3, 5, 6, 7, 8, 9, 13, 100, 65536} {
		x := built(t, named(n)...)
		for _, positions := range sets(n) {
			leaves := make([]uint64, len(positions))
			for i, position := range positions {
				leaves[i] = layout.Leaf(position, x.Depth())
			}
			var want []string
			for level, places := range layout.Needs(leaves, x.Depth()) {
				for _, k := range places {
					digest, _ := x.At(level, k)
					want = append(want, digest)
				}
			}
			wantProof(t, x, positions, want...)
		}
	}
}

// P10.1: a tree with another element has proofs of its own; those of the first tree stay as they were.
func TestTreesWithAnotherElement(t *testing.T) {
	for n := 1; n <= 7; n++ {
		x := built(t, named(n)...)
		for i := range uint64(n) {
			y, _ := x.With(i, "another one")
			eachSet(n, func(positions []uint64) {
				wantProof(t, y, positions, reference(t, y, positions)...)
				wantProof(t, x, positions, reference(t, x, positions)...)
			})
		}
	}
}
