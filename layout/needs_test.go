package layout_test

import (
	"math"
	"math/rand"
	"slices"
	"testing"

	"sextant/layout"
)

// above tells which places of a level have one of the leaves below them.
func above(leaves []uint64, level, depth int) []bool {
	known := make([]bool, 1<<(depth-level))
	for _, leaf := range leaves {
		known[leaf>>level] = true
	}
	return known
}

// reference goes through all places of all levels below the root's, and so finds what is needed in its order.
func reference(leaves []uint64, depth int) [][]uint64 {
	needs := make([][]uint64, depth)
	for level := range depth {
		known := above(leaves, level, depth)
		for place := range known {
			other := place + 1 - 2*(place%2)
			if known[other] && !known[place] {
				needs[level] = append(needs[level], uint64(place))
			}
		}
	}
	return needs
}

// sameLevels takes a level that needs nothing and one that is nil for the same.
func sameLevels(a, b [][]uint64) bool {
	return slices.EqualFunc(a, b, func(x, y []uint64) bool { return slices.Equal(x, y) })
}

func wantNeeds(t *testing.T, leaves []uint64, depth int, want ...[]uint64) {
	t.Helper()
	if got := layout.Needs(leaves, depth); !sameLevels(got, want) {
		t.Errorf("of the leaves %.100v, depth %d, are needed %.100v, not %.100v", leaves, depth, got, want)
	}
}

func wantNothing(t *testing.T, leaves []uint64, depth int) {
	t.Helper()
	if got := layout.Needs(leaves, depth); len(got) != 0 {
		t.Errorf("of the leaves %.100v, depth %d, are needed %.100v, not nothing", leaves, depth, got)
	}
}

// allLeaves are those of a tree, rising.
func allLeaves(depth int) []uint64 {
	var leaves []uint64
	for leaf := range uint64(1) << depth {
		leaves = append(leaves, leaf)
	}
	return leaves
}

// eachChoice hands on each choice of at least one leaf of a small tree, rising.
func eachChoice(depth int, do func(leaves []uint64)) {
	all := allLeaves(depth)
	for chosen := 1; chosen < 1<<len(all); chosen++ {
		var leaves []uint64
		for i, leaf := range all {
			if chosen>>i%2 == 1 {
				leaves = append(leaves, leaf)
			}
		}
		do(leaves)
	}
}

// someChoices hands on choices of some leaves of a great tree, in any order, some of them more than once.
func someChoices(do func(leaves []uint64, depth int)) {
	draw := rand.New(rand.NewSource(88))
	for depth := 1; depth <= 16; depth++ {
		for _, n := range []int{1, 2, 3, 5, 17, 100, 640} {
			leaves := make([]uint64, n)
			for i := range leaves {
				leaves[i] = draw.Uint64() >> (64 - depth)
			}
			do(leaves, depth)
		}
	}
}

// P8.2: the chapter's examples.
func TestNeedsExamples(t *testing.T) {
	wantNeeds(t, []uint64{0, 5}, 3, []uint64{1, 4}, []uint64{1, 3}, nil)
	wantNeeds(t, []uint64{2}, 2, []uint64{3}, []uint64{0})
}

// P8.2: each choice of leaves of the small trees, and some of the great ones.
func TestNeedsAsReference(t *testing.T) {
	for depth := range 5 {
		eachChoice(depth, func(leaves []uint64) {
			wantNeeds(t, leaves, depth, reference(leaves, depth)...)
		})
	}
	someChoices(func(leaves []uint64, depth int) {
		wantNeeds(t, leaves, depth, reference(leaves, depth)...)
	})
}

// P8.2: of one leaf its siblings are needed, up to the root: one of each level.
func TestNeedsOfOneLeaf(t *testing.T) {
	wantNeeds(t, []uint64{0}, 1, []uint64{1})
	wantNeeds(t, []uint64{1}, 1, []uint64{0})
	wantNeeds(t, []uint64{6}, 3, []uint64{7}, []uint64{2}, []uint64{0})
	for depth := 1; depth <= 16; depth++ {
		for _, leaf := range []uint64{0, 1, 1<<depth - 2, 1<<depth - 1, 1<<depth/3 | 1} {
			var want [][]uint64
			for level := range depth {
				want = append(want, []uint64{layout.Sibling(leaf >> level)})
			}
			wantNeeds(t, []uint64{leaf}, depth, want...)
		}
	}
}

// P8.2: of all leaves no level needs anything, and there are all levels the same.
func TestNeedsOfAllLeaves(t *testing.T) {
	for depth := range 17 {
		wantNeeds(t, allLeaves(depth), depth, make([][]uint64, depth)...)
	}
}

// P8.2: levels that need nothing, at the bottom, in between and at the top.
func TestNeedsEmptyLevels(t *testing.T) {
	wantNeeds(t, []uint64{0, 1}, 3, nil, []uint64{1}, []uint64{1})
	wantNeeds(t, []uint64{0, 3}, 3, []uint64{1, 2}, nil, []uint64{1})
	wantNeeds(t, []uint64{0, 7}, 3, []uint64{1, 6}, []uint64{1, 2}, nil)
	wantNeeds(t, []uint64{0, 2, 4, 6}, 3, []uint64{1, 3, 5, 7}, nil, nil)
	wantNeeds(t, []uint64{0, 1, 2, 3, 4, 5, 6}, 3, []uint64{7}, nil, nil)
	wantNeeds(t, []uint64{8, 9, 10, 11}, 4, nil, nil, []uint64{3}, []uint64{0})
}

// P8.2: each second leaf, from the greatest on: so many are needed that no order but the rising one is likely.
func TestNeedsRise(t *testing.T) {
	for depth := 1; depth <= 16; depth++ {
		var leaves, want []uint64
		for leaf := range uint64(1) << depth {
			if leaf%2 == 0 {
				want = append(want, leaf)
			} else {
				leaves = append(leaves, leaf)
			}
		}
		slices.Reverse(leaves)
		levels := make([][]uint64, depth)
		levels[0] = want
		wantNeeds(t, leaves, depth, levels...)
	}
	someChoices(func(leaves []uint64, depth int) {
		for level, needed := range layout.Needs(leaves, depth) {
			for i := 1; i < len(needed); i++ {
				if needed[i-1] >= needed[i] {
					t.Fatalf("on the level %d of depth %d the needed ones don't rise: %.100v", level, depth, needed)
				}
			}
		}
	})
}

// P8.2: how often a leaf is named, and in which order, counts for nothing.
func TestNeedsNamedTwiceAndInAnyOrder(t *testing.T) {
	wantNeeds(t, []uint64{5, 0}, 3, []uint64{1, 4}, []uint64{1, 3}, nil)
	wantNeeds(t, []uint64{5, 0, 5, 5, 0}, 3, []uint64{1, 4}, []uint64{1, 3}, nil)
	wantNeeds(t, []uint64{2, 2}, 2, []uint64{3}, []uint64{0})
	draw := rand.New(rand.NewSource(888))
	eachChoice(3, func(leaves []uint64) {
		want := reference(leaves, 3)
		named := slices.Concat(leaves, leaves, leaves[:draw.Intn(len(leaves)+1)])
		for range 5 {
			draw.Shuffle(len(named), func(i, j int) { named[i], named[j] = named[j], named[i] })
			wantNeeds(t, named, 3, want...)
		}
	})
}

// P8.2: a leaf that is named more often than there are leaves.
func TestNeedsNamedManyTimes(t *testing.T) {
	wantNeeds(t, make([]uint64, 100000), 16, reference([]uint64{0}, 16)...)
	wantNeeds(t, slices.Repeat([]uint64{3, 1}, 50000), 2, []uint64{0, 2}, nil)
}

// P8.2: no leaf, and depths that no tree may have.
func TestNeedsNothing(t *testing.T) {
	for depth := range 17 {
		wantNothing(t, nil, depth)
		wantNothing(t, []uint64{}, depth)
	}
	for _, depth := range unfit {
		wantNothing(t, nil, depth)
		for _, leaf := range []uint64{0, 1, 2, 65535, 65536, 1 << 63, math.MaxUint64} {
			wantNothing(t, []uint64{leaf}, depth)
		}
		wantNothing(t, []uint64{0, 5, 1}, depth)
	}
}

// P8.2: a tree of depth 0 has no level but the root's.
func TestNeedsOfTheRootAlone(t *testing.T) {
	wantNothing(t, []uint64{0}, 0)
	wantNothing(t, []uint64{0, 0, 0}, 0)
	wantNothing(t, []uint64{1}, 0)
}

// P8.2: a leaf that is not below 2^depth, alone and at each place among good ones.
func TestNeedsALeafThatIsNotThere(t *testing.T) {
	for depth := range 17 {
		wantNeeds(t, []uint64{1<<depth - 1}, depth, reference([]uint64{1<<depth - 1}, depth)...)
		good := []uint64{0, 1<<depth - 1, 1 << depth / 2}
		for _, leaf := range beyond(depth) {
			wantNothing(t, []uint64{leaf}, depth)
			for place := range len(good) + 1 {
				wantNothing(t, slices.Insert(slices.Clone(good), place, leaf), depth)
			}
		}
	}
}

// comes tells whether the root comes, if a parent comes where both its kids are there.
func comes(leaves []uint64, needs [][]uint64, depth int) bool {
	there := make([]bool, 1<<depth)
	for _, leaf := range leaves {
		there[leaf] = true
	}
	for level := range depth {
		for _, place := range needs[level] {
			there[place] = true
		}
		parents := make([]bool, len(there)/2)
		for parent := range parents {
			parents[parent] = there[2*parent] && there[2*parent+1]
		}
		there = parents
	}
	return there[0]
}

// without is the same levels, but for one of the needed.
func without(needs [][]uint64, level, i int) [][]uint64 {
	fewer := slices.Clone(needs)
	fewer[level] = slices.Delete(slices.Clone(needs[level]), i, i+1)
	return fewer
}

func wantJustEnough(t *testing.T, leaves []uint64, depth int) {
	t.Helper()
	needs := layout.Needs(leaves, depth)
	if len(needs) != depth || !comes(leaves, needs, depth) {
		t.Fatalf("the root does not come of the leaves %.100v, depth %d, and %.100v", leaves, depth, needs)
	}
	for level, needed := range needs {
		for i := range needed {
			if comes(leaves, without(needs, level, i), depth) {
				t.Fatalf("the root comes of the leaves %.100v, depth %d, without %d on the level %d", leaves, depth, needed[i], level)
			}
		}
	}
}

// P8.3: the root comes of known and needed places, and does not without any one of the needed.
func TestNeededAreJustEnough(t *testing.T) {
	for depth := range 5 {
		eachChoice(depth, func(leaves []uint64) { wantJustEnough(t, leaves, depth) })
	}
	draw := rand.New(rand.NewSource(8888))
	for range 30 {
		depth := 5 + draw.Intn(6)
		leaves := make([]uint64, 1+draw.Intn(30))
		for i := range leaves {
			leaves[i] = draw.Uint64() >> (64 - depth)
		}
		wantJustEnough(t, leaves, depth)
	}
	wantJustEnough(t, []uint64{0}, 16)
	wantJustEnough(t, []uint64{65535}, 16)
}

// P8.3: on each level the parent of each that is known comes, not the root alone.
func TestAllParentsCome(t *testing.T) {
	eachChoice(4, func(leaves []uint64) {
		for level, needed := range layout.Needs(leaves, 4) {
			there := above(leaves, level, 4)
			for _, place := range needed {
				if there[place] {
					t.Fatalf("of %v the known place %d is needed on the level %d", leaves, place, level)
				}
				there[place] = true
			}
			for parent, known := range above(leaves, level+1, 4) {
				if both := there[2*parent] && there[2*parent+1]; both != known {
					t.Fatalf("of %v comes the place %d on the level %d: %v", leaves, parent, level+1, both)
				}
			}
		}
	})
}

// R5: what was handed in stays as it was, and so do what lies behind its end and its place in memory.
func TestNeedsLeavesItsArgument(t *testing.T) {
	memory := []uint64{5, 0, 5, 3, 77, 78, 79, 80}
	before := slices.Clone(memory)
	for _, depth := range []int{-1, 0, 2, 3, 16, 17} {
		layout.Needs(memory[:4], depth)
		if !slices.Equal(memory, before) {
			t.Fatalf("depth %d made %v of %v", depth, memory, before)
		}
	}
}

// scribble writes over a list, and over the memory behind its end, as far as it has some.
func scribble(list []uint64) {
	all := list[:cap(list)]
	for i := range all {
		all[i] = 12345
	}
}

// R5: no list of an answer shares memory with another one, with the argument, or with another answer.
func TestNeedsAnswersNewMemory(t *testing.T) {
	leaves := []uint64{0, 5, 9, 14, 33, 47, 62}
	want := reference(leaves, 6)
	for written := range want {
		first, second := layout.Needs(leaves, 6), layout.Needs(leaves, 6)
		scribble(first[written])
		if !sameLevels(second, want) || !slices.Equal(leaves, []uint64{0, 5, 9, 14, 33, 47, 62}) {
			t.Fatalf("writing over the level %d changed another answer to %v, or the leaves to %v", written, second, leaves)
		}
		for level := range want {
			if level != written && !slices.Equal(first[level], want[level]) {
				t.Fatalf("writing over the level %d changed the level %d to %v", written, level, first[level])
			}
		}
		wantNeeds(t, leaves, 6, want...)
	}
}

// R5: what is written over the argument later changes no answer.
func TestNeedsKeepsNoArgument(t *testing.T) {
	leaves := []uint64{0, 5}
	needs := layout.Needs(leaves, 3)
	scribble(leaves)
	if want := [][]uint64{{1, 4}, {1, 3}, nil}; !sameLevels(needs, want) {
		t.Errorf("the answer became %v, not %v", needs, want)
	}
}

// R6: the same call answers the same, though places are gathered in a map, which has no order.
func TestNeedsAnswersTheSame(t *testing.T) {
	leaves := []uint64{1, 1000, 17, 512, 900, 33, 4, 250, 251, 777, 600, 601, 90, 1023}
	want := layout.Needs(leaves, 10)
	for range 200 {
		wantNeeds(t, leaves, 10, want...)
	}
}
