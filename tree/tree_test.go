package tree_test

import (
	"math"
	"slices"
	"testing"

	"sextant/api"
	"sextant/dom"
	"sextant/layout"
	"sextant/tree"
)

// P9.1, P9.2, P9.3: the chapter's examples.
func TestExamples(t *testing.T) {
	none := built(t)
	if none.Root() != dom.Hash("none") || none.Depth() != 0 || none.Len() != 0 {
		t.Errorf("of no elements: %x, %d, %d", none.Root(), none.Depth(), none.Len())
	}
	one := built(t, "a")
	if digest, is := one.At(0, 0); one.Root() != dom.Hash("leaf", "a") || digest != one.Root() || !is {
		t.Errorf("of a: the root %x, At(0, 0) %x, %v", one.Root(), digest, is)
	}
	wantNoPlace(t, one, 0, 1)
	wantNoPlace(t, one, 1, 0)
	low := dom.Hash("node", dom.Hash("leaf", "a"), dom.Hash("leaf", "c"))
	high := dom.Hash("node", dom.Hash("leaf", "b"), dom.Hash("none"))
	if three := built(t, "a", "b", "c"); three.Root() != dom.Hash("node", low, high) {
		t.Errorf("the root of a, b, c is %x", three.Root())
	}
	two := built(t, "a", "b")
	wantTree(t, with(t, two, 1, "c"), []string{"a", "c"})
	wantRefused(t, two, 2, api.ErrArg)
}

// P9.1: lists of none, one, two and three, written out.
func TestSmallListsWrittenOut(t *testing.T) {
	a, b, c, none := hash("leaf", "a"), hash("leaf", "b"), hash("leaf", "c"), hash("none")
	low, high := hash("node", a, c), hash("node", b, none)
	wantPicture(t, built(t), 0, picture{{none}})
	wantPicture(t, built(t, "a"), 1, picture{{a}})
	wantPicture(t, built(t, "a", "b"), 2, picture{{a, b}, {hash("node", a, b)}})
	wantPicture(t, built(t, "a", "b", "c"), 3, picture{{a, c, b, none}, {low, high}, {hash("node", low, high)}})
}

// P9.1, P9.2: each number of elements up to some, no two of them alike.
func TestEachSmallNumber(t *testing.T) {
	for n := range 140 {
		wantTree(t, built(t, named(n)...), named(n))
	}
}

// P9.1, P9.2: elements of no bytes, alike ones, and others at the edges.
func TestEdgesOfElements(t *testing.T) {
	for _, elements := range lists() {
		wantTree(t, built(t, elements...), elements)
	}
}

// P9.1: the numbers at which the depth changes.
func TestDepthChanges(t *testing.T) {
	for _, n := range []int{255, 256, 257, 1023, 1024, 1025, 4095, 4097} {
		wantTree(t, built(t, named(n)...), named(n))
	}
}

// P9.1, P9.2: as many elements as may be, one less, and the least number that is as deep.
func TestAsManyAsMayBe(t *testing.T) {
	all := named(api.MaxParts)
	for _, n := range []int{api.MaxParts/2 + 1, api.MaxParts - 1, api.MaxParts} {
		x := built(t, all[:n]...)
		if x.Depth() != 16 || x.Len() != n {
			t.Errorf("%d elements are %d, depth %d", n, x.Len(), x.Depth())
		}
		wantTree(t, x, all[:n])
	}
}

// P9.1: more than may be, whatever they are.
func TestTooMany(t *testing.T) {
	for _, n := range []int{api.MaxParts + 1, api.MaxParts + 2, 2 * api.MaxParts, 2*api.MaxParts + 1, 1 << 20} {
		if x, e := tree.Build(make([]string, n)); x != nil || e != api.ErrLong {
			t.Errorf("Build of %d elements is %v, %v, not nothing, ErrLong", n, x, e)
		}
	}
	if x, e := tree.Build(named(api.MaxParts + 1)); x != nil || e != api.ErrLong {
		t.Errorf("Build of 65537 elements is %v, %v, not nothing, ErrLong", x, e)
	}
}

// R4: a list without elements and one that is nil have the same tree, whatever memory lies behind.
func TestNoElements(t *testing.T) {
	for _, elements := range [][]string{nil, {}, make([]string, 0, 8), named(2)[:0]} {
		wantPicture(t, built(t, elements...), 0, picture{{hash("none")}})
	}
}

// P9.2: each place is the hash of its kids, each leaf that of the element that layout has there, or of none.
func TestEachPlace(t *testing.T) {
	for _, n := range []int{0, 1, 2, 3, 4, 5, 6, 7, 8, 9, 15, 16, 17, 33, 64, 100} {
		elements := named(n)
		x := built(t, elements...)
		all := shown(t, x)
		for k, digest := range all[0] {
			want := dom.Hash("none")
			if i := layout.Element(uint64(k), x.Depth()); i < uint64(n) {
				want = dom.Hash("leaf", elements[i])
			}
			if digest != want {
				t.Errorf("the leaf %d of %d elements has %x, not %x", k, n, digest, want)
			}
		}
		for level := 1; level <= x.Depth(); level++ {
			for k, digest := range all[level] {
				if digest != dom.Hash("node", all[level-1][2*k], all[level-1][2*k+1]) {
					t.Errorf("the place %d on the level %d of %d elements is not the hash of its kids", k, level, n)
				}
			}
		}
		if all.root() != x.Root() {
			t.Errorf("the highest level's place of %d elements is not the root", n)
		}
	}
}

// P9.2: numbers just below a level's count, just that, and far above, of each level.
func TestPlacesAtTheBound(t *testing.T) {
	for _, n := range []int{0, 1, 2, 3, 4, 5, 8, 9, 16, 17, 65536} {
		x := built(t, make([]string, n)...)
		for level := range x.Depth() + 1 {
			count := uint64(1) << (x.Depth() - level)
			if _, is := x.At(level, count-1); !is {
				t.Errorf("the last place of the level %d of %d elements is not there", level, n)
			}
			for _, k := range append(far(), count, count+1, 2*count-1, 2*count, 3*count, count<<20) {
				if k >= count {
					wantNoPlace(t, x, level, k)
				}
			}
		}
	}
}

// P9.2: levels below 0 and above the highest one.
func TestLevelsThatAreNotThere(t *testing.T) {
	for _, n := range []int{0, 1, 2, 3, 5, 8, 9, 65536} {
		x := built(t, make([]string, n)...)
		depth := x.Depth()
		levels := []int{-1, -2, -depth, -depth - 1, -16, -63, -64, -65, math.MinInt32, math.MinInt, math.MinInt + 1,
			depth + 1, depth + 2, 17, 32, 63, 64, 65, 1 << 32, math.MaxInt32, math.MaxInt - 1, math.MaxInt}
		for _, level := range levels {
			if level == 0 {
				continue
			}
			for _, k := range append(far(), 0, 1, 2, 3) {
				wantNoPlace(t, x, level, k)
			}
		}
	}
}

// P9.1: of all lists of at most four short elements, no two have one root, however many leaves have none.
func TestRootsOfUnlikeLists(t *testing.T) {
	lists := [][]string{{}}
	for from := 0; len(lists[from]) < 4; from++ {
		for _, element := range []string{"", "a", "b"} {
			lists = append(lists, append(slices.Clone(lists[from]), element))
		}
	}
	roots := map[string][]string{}
	for _, elements := range lists {
		root := built(t, elements...).Root()
		if other, there := roots[root]; there {
			t.Errorf("%q and %q have one root", elements, other)
		}
		roots[root] = elements
	}
}

// R3: of a tree that is none, all calls, with arguments that may be and such that may not.
func TestATreeThatIsNone(t *testing.T) {
	var null *tree.Tree
	for _, x := range []*tree.Tree{null, {}, new(tree.Tree)} {
		if x.Root() != "" || x.Depth() != -1 || x.Len() != 0 {
			t.Errorf("a tree that is none tells %x, %d, %d", x.Root(), x.Depth(), x.Len())
		}
		for _, level := range []int{-2, -1, 0, 1, 16, 17, 64, math.MinInt, math.MaxInt} {
			for _, k := range append(far(), 0, 1) {
				wantNoPlace(t, x, level, k)
			}
		}
		for _, i := range append(far(), 0, 1) {
			wantRefused(t, x, i, api.ErrNil)
		}
	}
}

// R6: the same list has the same tree, whenever it is asked for.
func TestTheSameAgain(t *testing.T) {
	first := shown(t, built(t, named(21)...))
	built(t, "another")
	if again := shown(t, built(t, named(21)...)); !again.same(first) {
		t.Error("the same list has another tree")
	}
}

// R5: what was handed in stays as it was, also behind its end, and what is written over it later changes no tree.
func TestBuildKeepsNoList(t *testing.T) {
	for n := range 9 {
		memory := append(named(n), "behind", "its", "end")
		before := slices.Clone(memory)
		want := pictureOf(before[:n])
		x := built(t, memory[:n]...)
		if !slices.Equal(memory, before) {
			t.Fatalf("Build of %q made %q of it", before, memory)
		}
		for i := range memory {
			memory[i] = "written over"
		}
		wantPicture(t, x, n, want)
		if n > 0 {
			y := with(t, x, uint64(n-1), "new")
			wantTree(t, y, append(before[:n-1:n-1], "new"))
		}
	}
}
