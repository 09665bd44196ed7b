package proof_test

import (
	"math/rand"
	"slices"
	"testing"

	"sextant/api"
	"sextant/layout"
	"sextant/multi"
)

// P11.1: the chapter's examples.
func TestExamples(t *testing.T) {
	a, b, c, none := hash("leaf", "a"), hash("leaf", "b"), hash("leaf", "c"), hash("none")
	list := built(t, "a", "b", "c").Root()
	middle := asked{3, []uint64{1}, []string{"b"}, []string{none, hash("node", a, c)}}
	wantRoot(t, middle, list)
	wantRoot(t, asked{1, []uint64{0}, []string{"a"}, nil}, a)
	wantRoot(t, asked{3, []uint64{0, 1, 2}, []string{"a", "b", "c"}, []string{none}}, list)
	wantRefused(t, middle.with(middle.proof[:1]), api.ErrShort)
	wantRefused(t, middle.with([]string{none, b, c}), api.ErrLong)
	wantRefused(t, asked{3, []uint64{1, 1}, []string{"b", "b"}, middle.proof}, api.ErrArg)
	wantRefused(t, middle.at([]uint64{3}), api.ErrArg)
	wantRefused(t, middle.of(nil), api.ErrArg)
	wantRefused(t, middle.with([]string{none[:31]}), api.ErrForm)
	wantRefused(t, middle.with([]string{none, none[:31]}), api.ErrForm)
}

// P11.1: lists of one, two and three elements, at each set of positions, with digests that no tree made, written out.
func TestSmallListsWrittenOut(t *testing.T) {
	node := func(low, high string) string { return hash("node", low, high) }
	p, q := hash("p"), hash("q")
	a, b, c := hash("leaf", "a"), hash("leaf", "b"), hash("leaf", "c")
	for _, row := range []struct {
		asked
		root string
	}{
		{asked{1, []uint64{0}, []string{"a"}, nil}, a},
		{asked{2, []uint64{0}, []string{"a"}, []string{p}}, node(a, p)},
		{asked{2, []uint64{1}, []string{"b"}, []string{p}}, node(p, b)},
		{asked{2, []uint64{0, 1}, []string{"a", "b"}, nil}, node(a, b)},
		{asked{3, []uint64{0}, []string{"a"}, []string{p, q}}, node(node(a, p), q)},
		{asked{3, []uint64{1}, []string{"b"}, []string{p, q}}, node(q, node(b, p))},
		{asked{3, []uint64{2}, []string{"c"}, []string{p, q}}, node(node(p, c), q)},
		{asked{3, []uint64{0, 1}, []string{"a", "b"}, []string{p, q}}, node(node(a, p), node(b, q))},
		{asked{3, []uint64{0, 2}, []string{"a", "c"}, []string{p}}, node(node(a, c), p)},
		{asked{3, []uint64{1, 2}, []string{"b", "c"}, []string{p, q}}, node(node(p, c), node(b, q))},
		{asked{3, []uint64{0, 1, 2}, []string{"a", "b", "c"}, []string{p}}, node(node(a, c), node(b, p))},
	} {
		wantRoot(t, row.asked, row.root)
	}
}

// P11.1: digests are taken level by level, from the leaves on, and on each level rising, though the positions' leaves fall.
func TestOrderWrittenOut(t *testing.T) {
	leaf := func(element string) string { return hash("leaf", element) }
	node := func(low, high string) string { return hash("node", low, high) }
	p := digests(4)
	elements := func(all ...string) []string { return all }
	// Of eight elements a to h the leaves have: a e c g b f d h.
	wantRoot(t, asked{8, []uint64{1, 2}, elements("b", "c"), p},
		node(node(p[2], node(leaf("c"), p[0])), node(node(leaf("b"), p[1]), p[3])))
	wantRoot(t, asked{8, []uint64{3, 5, 6}, elements("d", "f", "g"), p},
		node(node(p[3], node(p[0], leaf("g"))), node(node(p[1], leaf("f")), node(leaf("d"), p[2]))))
	wantRoot(t, asked{8, []uint64{0, 3, 4}, elements("a", "d", "e"), p[:3]},
		node(node(node(leaf("a"), leaf("e")), p[1]), node(p[2], node(leaf("d"), p[0]))))
	wantRoot(t, asked{5, []uint64{1, 4}, elements("b", "e"), p},
		node(node(node(p[0], leaf("e")), p[2]), node(node(leaf("b"), p[1]), p[3])))
}

// P11.1: digests that no tree made give what the reference gives, at each set of positions of each small number of elements.
func TestAnyDigests(t *testing.T) {
	some := digests(64)
	for n := range 12 {
		eachSet(n, func(positions []uint64) {
			a := asked{n: n, positions: positions, elements: chosen(named(n), positions)}
			_, needed := reference(a)
			a.proof = some[:needed]
			root, _ := reference(a)
			wantRoot(t, a, root)
		})
	}
}

// P11.1: as many digests are asked for as layout and multi say, of small numbers of elements and of great ones.
func TestAsManyDigestsAsAreNeeded(t *testing.T) {
	for _, n := range []int{1, 2, 3, 5, 8, 13, 100, 257, 4097, api.MaxParts} {
		elements, some := named(n), digests(n+17)
		for _, positions := range sets(n) {
			size, e := multi.Size(n, positions)
			a := asked{n, positions, chosen(elements, positions), some[:size]}
			root, needed := reference(a)
			if e != api.OK || needed != size {
				t.Fatalf("Size of %d elements at %.100v is %d, %v, not %d", n, positions, size, e, needed)
			}
			if got, e := a.root(); e != api.OK || got != root {
				t.Errorf("of %d elements at %.100v the root comes as %x, %v, not %x", n, positions, got, e, root)
			}
			wantRefused(t, a.with(some[:size+1]), api.ErrLong)
			if size > 0 {
				wantRefused(t, a.with(some[:size-1]), api.ErrShort)
			}
		}
	}
}

// P11.1, P11.3: each set of positions of each small list, with the proof that multi makes of them.
func TestEachSetOfSmallLists(t *testing.T) {
	for n := range 12 {
		elements := named(n)
		x := built(t, elements...)
		eachSet(n, func(positions []uint64) {
			wantRoot(t, shown(t, x, elements, positions), x.Root())
		})
	}
}

// P11.1, P11.3: each position alone, and each pair, of lists of which not all sets can be gone through.
func TestEachPairOfMiddleLists(t *testing.T) {
	for _, n := range []int{15, 16, 17, 31, 32, 33} {
		elements := named(n)
		x := built(t, elements...)
		for i := range uint64(n) {
			wantRoot(t, shown(t, x, elements, []uint64{i}), x.Root())
			for j := i + 1; j < uint64(n); j++ {
				wantRoot(t, shown(t, x, elements, []uint64{i, j}), x.Root())
			}
		}
	}
}

// P11.1, P11.3: where the depth changes, up to as many elements as may be: one, all, the first and the last one, some.
func TestGreatLists(t *testing.T) {
	for _, n := range []int{63, 64, 65, 257, 1000, 4096, 32769, api.MaxParts} {
		elements := named(n)
		x := built(t, elements...)
		for _, positions := range sets(n) {
			a := shown(t, x, elements, positions)
			if got, e := a.root(); e != api.OK || got != x.Root() {
				t.Errorf("of %d elements at %.100v the root comes as %x, %v, not %x", n, positions, got, e, x.Root())
			}
		}
		wantRoot(t, shown(t, x, elements, []uint64{0, uint64(n - 1)}), x.Root())
	}
}

// P11.1: of all elements no digest is needed, but those of leaves at which none stands, or of places above such alone.
func TestAllPositions(t *testing.T) {
	none := hash("none")
	for _, n := range []int{1, 2, 4, 8, 1024, 65536} {
		elements := named(n)
		wantRoot(t, asked{n, each(n), elements, nil}, built(t, elements...).Root())
		wantRefused(t, asked{n, each(n), elements, []string{none}}, api.ErrLong)
	}
	wantRoot(t, asked{3, each(3), named(3), []string{none}}, built(t, named(3)...).Root())
	wantRoot(t, asked{5, each(5), named(5), []string{none, none, none}}, built(t, named(5)...).Root())
	wantRefused(t, asked{3, each(3), named(3), nil}, api.ErrShort)
}

// P11.1: each of the greatest list's positions has the way to the root that its leaf has.
func TestPositionsOfTheGreatestList(t *testing.T) {
	elements := named(api.MaxParts)
	x := built(t, elements...)
	for i := uint64(0); i < api.MaxParts; i += 257 {
		wantRoot(t, shown(t, x, elements, []uint64{i}), x.Root())
	}
}

// P11.1: elements that are alike, of no bytes, or that look like digests, are hashed as what stands at a leaf.
func TestOddElements(t *testing.T) {
	leaf, none := hash("leaf", "a"), hash("none")
	for _, elements := range [][]string{
		{""}, {"", ""}, {"a", "a", "a"}, {"", "a", ""}, make([]string, 5), make([]string, 9), {"\x00", "\xff", "\xff\xfe"},
		{leaf}, {none}, {leaf, none}, {none, none, none}, {hash("node", leaf, none), leaf, none, "a"},
	} {
		x := built(t, elements...)
		eachSet(len(elements), func(positions []uint64) { wantRoot(t, shown(t, x, elements, positions), x.Root()) })
	}
}

// P11.3: with other elements at the positions, and the same proof, comes the root of the list with those.
func TestOtherElements(t *testing.T) {
	for n := 1; n <= 9; n++ {
		elements := named(n)
		x := built(t, elements...)
		eachSet(n, func(positions []uint64) {
			a := shown(t, x, elements, positions)
			other := slices.Clone(elements)
			for _, i := range positions {
				other[i] = "other " + other[i]
				b := a.of(chosen(other, positions))
				wantRoot(t, b, built(t, other...).Root())
				wantCheck(t, b, x.Root(), api.ErrProof)
			}
		})
	}
}

// P11.3: likewise of a great list, held against the tree that has the other elements one by one.
func TestOtherElementsOfAGreatList(t *testing.T) {
	elements := named(api.MaxParts)
	x := built(t, elements...)
	a := shown(t, x, elements, drawn(rand.New(rand.NewSource(11)), api.MaxParts, 100))
	for i, position := range a.positions {
		other := "other " + elements[position]
		x, _ = x.With(position, other)
		a = a.of(replaced(a.elements, i, other))
		wantRoot(t, a, x.Root())
	}
}

// P11.1: elements stand at their own positions: exchanged they give the root of the list in which they are exchanged.
func TestExchangedElements(t *testing.T) {
	for n := 2; n <= 9; n++ {
		elements := named(n)
		x := built(t, elements...)
		for i := range n {
			for j := range i {
				a := shown(t, x, elements, []uint64{uint64(j), uint64(i)})
				other := slices.Clone(elements)
				other[i], other[j] = other[j], other[i]
				wantRoot(t, a.of([]string{elements[i], elements[j]}), built(t, other...).Root())
			}
		}
	}
}

// P11.1: the positions count, and how many elements there are: the same digests elsewhere give another root.
func TestTheSameDigestsElsewhere(t *testing.T) {
	a := proven(t, named(8), []uint64{5})
	root, _ := a.root()
	for i := range uint64(8) {
		b := a.at([]uint64{i})
		other, _ := reference(b)
		wantRoot(t, b, other)
		if i != 5 {
			wantCheck(t, b, root, api.ErrProof)
		}
	}
	for n := 6; n <= 8; n++ {
		wantRoot(t, a.among(n), root) // of so many the leaves are the same
	}
	wantRefused(t, a.among(9), api.ErrShort)
	wantRefused(t, proven(t, named(9), []uint64{1}).among(8), api.ErrLong)
}

// P11.1: the words of layout and the root that comes agree: a place's parent is of it and its sibling.
func TestOneWayWrittenOut(t *testing.T) {
	for _, n := range []int{1, 2, 3, 6, 17, 1000, api.MaxParts} {
		depth := layout.Depth(n)
		some := digests(depth)
		for _, i := range []uint64{0, uint64(n) / 3, uint64(n) - 1} {
			k, digest := layout.Leaf(i, depth), hash("leaf", "x")
			for _, sibling := range some {
				if k < layout.Sibling(k) {
					digest = hash("node", digest, sibling)
				} else {
					digest = hash("node", sibling, digest)
				}
				k = layout.Parent(k)
			}
			wantRoot(t, asked{n, []uint64{i}, []string{"x"}, some}, digest)
		}
	}
}
