package tree_test

import (
	"math"
	"math/rand"
	"slices"
	"strconv"
	"strings"
	"testing"

	"sextant/api"
	"sextant/layout"
	"sextant/tree"
)

// replaced is the same list, with another element at a place.
func replaced(elements []string, i int, element string) []string {
	other := slices.Clone(elements)
	other[i] = element
	return other
}

// P9.3: an element at each place of each small list: the tree of that list, and the first tree as it was.
func TestWithAtEachPlace(t *testing.T) {
	for n := 1; n <= 40; n++ {
		elements := named(n)
		x := built(t, elements...)
		for i := range elements {
			for _, element := range []string{"new", "", elements[n-1-i], hash("none")} {
				wantTree(t, with(t, x, uint64(i), element), replaced(elements, i, element))
			}
		}
		wantTree(t, x, elements)
	}
}

// P9.3: lists with elements of no bytes and with alike ones: only the one that is named is another one.
func TestWithInEdgesOfElements(t *testing.T) {
	for _, elements := range lists() {
		x := built(t, elements...)
		for i := range elements {
			wantTree(t, with(t, x, uint64(i), "new"), replaced(elements, i, "new"))
		}
		wantTree(t, x, elements)
	}
}

// P9.3: elements at the edges, in the place of an ordinary one.
func TestWithOfElementsAtTheEdges(t *testing.T) {
	elements := named(6)
	x := built(t, elements...)
	for _, element := range []string{"", "\x00", "\xff", "none", "leaf", hash("leaf", "a"), strings.Repeat("p", 300), strings.Repeat("p", 1<<20)} {
		for i := range elements {
			wantTree(t, with(t, x, uint64(i), element), replaced(elements, i, element))
		}
	}
}

// P9.3: an i that is just how many there are, and far above, also where it has a leaf at which none stands.
func TestWithAnElementThatIsNotThere(t *testing.T) {
	for _, n := range []int{0, 1, 2, 3, 4, 5, 7, 8, 9, 17} {
		x := built(t, named(n)...)
		if n > 0 {
			with(t, x, uint64(n-1), "new")
		}
		above := []uint64{uint64(n), uint64(n) + 1, uint64(2 * n), 18, 32, 64, 255, 256, 1<<63 - 1, 1 << 63, math.MaxUint64}
		for _, i := range append(far(), above...) {
			if i >= uint64(n) {
				wantRefused(t, x, i, api.ErrArg)
			}
		}
	}
}

// P9.3: the same at as many elements as may be.
func TestWithInTheGreatestTree(t *testing.T) {
	elements := named(api.MaxParts)
	x := built(t, elements...)
	before := x.Root()
	for _, i := range []int{0, 1, 2, 32767, 32768, 65534, 65535} {
		wantTree(t, with(t, x, uint64(i), "new"), replaced(elements, i, "new"))
	}
	wantRefused(t, x, 65536, api.ErrArg)
	wantRefused(t, x, math.MaxUint64, api.ErrArg)
	fewer := built(t, elements[:65535]...)
	wantTree(t, with(t, fewer, 65534, "new"), replaced(elements[:65535], 65534, "new"))
	wantRefused(t, fewer, 65535, api.ErrArg)
	wantTree(t, x, elements)
	if x.Root() != before {
		t.Error("the root of the first tree has changed")
	}
}

// P9.3: the same element again: the same tree in all that it tells, but one of its own.
func TestWithTheSameElement(t *testing.T) {
	for n := 1; n <= 20; n++ {
		elements := named(n)
		x := built(t, elements...)
		for i, element := range elements {
			y := with(t, x, uint64(i), element)
			if y == x {
				t.Fatalf("With(%d) of %d elements answers the tree itself", i, n)
			}
			wantTree(t, y, elements)
		}
	}
}

// P9.3: With of a With, at other places and at the same one, there and back; each tree on the way stays as it was.
func TestWithOfAWith(t *testing.T) {
	elements := named(11)
	trees := []*tree.Tree{built(t, elements...)}
	have := [][]string{elements}
	draw := rand.New(rand.NewSource(9))
	for step := range 300 {
		from := draw.Intn(len(trees))
		i := draw.Intn(len(elements))
		element := "step " + strconv.Itoa(step)
		trees = append(trees, with(t, trees[from], uint64(i), element))
		have = append(have, replaced(have[from], i, element))
	}
	for which, x := range trees {
		wantTree(t, x, have[which])
	}
	x := trees[0]
	back := with(t, with(t, x, 4, "away"), 4, elements[4])
	wantTree(t, back, elements)
	one, other := with(t, with(t, x, 3, "c"), 8, "d"), with(t, with(t, x, 8, "d"), 3, "c")
	if one.Root() != other.Root() {
		t.Error("two elements in another order give another tree")
	}
}

// P9.3: of a With the bound is what it was.
func TestWithOfAWithThatIsNotThere(t *testing.T) {
	y := with(t, built(t, named(5)...), 2, "new")
	for _, i := range append(far(), 5, 6, 7, 8) {
		wantRefused(t, y, i, api.ErrArg)
	}
}

// P9.3: a whole list, put in element by element, is its tree.
func TestWithEachElement(t *testing.T) {
	for _, n := range []int{1, 2, 3, 7, 8, 33, 1000} {
		x := built(t, make([]string, n)...)
		for i, element := range named(n) {
			x = with(t, x, uint64(i), element)
		}
		wantTree(t, x, named(n))
	}
}

// wantOnlyTheWay asks that just the digests on the way from a leaf to the root are other ones.
func wantOnlyTheWay(t *testing.T, before, after picture, leaf uint64) {
	t.Helper()
	on := leaf
	for level := range before {
		for k := range before[level] {
			if other := before[level][k] != after[level][k]; other != (uint64(k) == on) {
				t.Fatalf("with another element at the leaf %d, the place %d on the level %d is another one: %v", leaf, k, level, other)
			}
		}
		on = layout.Parent(on)
	}
}

// P9.4: only the way to the root is another one, and all of it, at each place of small lists.
func TestOnlyTheWayIsAnother(t *testing.T) {
	for n := 1; n <= 40; n++ {
		x := built(t, named(n)...)
		before := shown(t, x)
		for i := range uint64(n) {
			after := shown(t, with(t, x, i, "new"))
			wantOnlyTheWay(t, before, after, layout.Leaf(i, x.Depth()))
		}
	}
}

// P9.4: the same among alike elements, where each other leaf has the digest that the way had.
func TestOnlyTheWayAmongAlikeOnes(t *testing.T) {
	for _, n := range []int{2, 3, 4, 5, 16, 21} {
		x := built(t, make([]string, n)...)
		before := shown(t, x)
		for i := range uint64(n) {
			wantOnlyTheWay(t, before, shown(t, with(t, x, i, "new")), layout.Leaf(i, x.Depth()))
		}
	}
}

// P9.4: the same in great trees.
func TestOnlyTheWayInGreatTrees(t *testing.T) {
	for _, n := range []int{32769, 65535, 65536} {
		x := built(t, named(n)...)
		before := shown(t, x)
		for _, i := range []uint64{0, 1, 12345, 32767, 32768, uint64(n - 1)} {
			wantOnlyTheWay(t, before, shown(t, with(t, x, i, "new")), layout.Leaf(i, 16))
		}
	}
}

// What was there is kept: of a great tree no more is made than the way, which shows in how often memory is asked for.
func TestWithMakesTheWayAlone(t *testing.T) {
	x := built(t, make([]string, api.MaxParts)...)
	if times := testing.AllocsPerRun(10, func() { x.With(40000, "new") }); times > 1000 {
		t.Errorf("With of 65536 elements asks for memory %v times", times)
	}
}

// R5, R6: trees of one tree do not mind each other, in whichever order they are made and asked.
func TestTreesGoTheirOwnWays(t *testing.T) {
	elements := named(13)
	x := built(t, elements...)
	first := with(t, x, 7, "first")
	told := shown(t, first)
	second := with(t, x, 7, "second")
	third := with(t, first, 6, "third")
	wantTree(t, x, elements)
	wantTree(t, second, replaced(elements, 7, "second"))
	wantTree(t, third, replaced(replaced(elements, 7, "first"), 6, "third"))
	if !shown(t, first).same(told) {
		t.Error("the first tree has changed")
	}
	if again := with(t, x, 7, "first"); !shown(t, again).same(told) {
		t.Error("the same call answers another tree")
	}
}
