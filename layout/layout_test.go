package layout_test

import (
	"math"
	"math/rand"
	"testing"

	"sextant/layout"
)

// unfit are depths that no tree may have.
var unfit = []int{-1, -2, -16, -64, math.MinInt, math.MinInt + 1, 17, 18, 32, 48, 63, 64, 65, 128, 65536, math.MaxInt}

// turns is the number by so many bits, taken from the lowest on, one by one.
func turns(k uint64, depth int) uint64 {
	var turned uint64
	for range depth {
		turned = turned*2 + k%2
		k /= 2
	}
	return turned
}

// beyond are numbers that are not below 2^depth: just that, some above, and some whose lowest bits are none or all.
func beyond(depth int) []uint64 {
	least := uint64(1) << depth
	all := []uint64{least, least + 1, 2*least - 1, 2 * least, 3 * least, math.MaxUint64, math.MaxUint64 - 1, math.MaxInt64, 1 << 63, 1<<63 + 1}
	for shift := depth; shift < 64; shift++ {
		all = append(all, uint64(1)<<shift)
	}
	return all
}

func wantDepth(t *testing.T, n, want int) {
	t.Helper()
	if got := layout.Depth(n); got != want {
		t.Errorf("Depth(%d) is %d, not %d", n, got, want)
	}
}

// wantTurned holds for both calls, as they turn alike.
func wantTurned(t *testing.T, k uint64, depth int, want uint64) {
	t.Helper()
	if got := layout.Leaf(k, depth); got != want {
		t.Errorf("Leaf(%d, %d) is %d, not %d", k, depth, got, want)
	}
	if got := layout.Element(k, depth); got != want {
		t.Errorf("Element(%d, %d) is %d, not %d", k, depth, got, want)
	}
}

// P8.1: the chapter's examples, and the whole's fourth one.
func TestExamples(t *testing.T) {
	for n, want := range map[int]int{0: 0, 1: 0, 2: 1, 3: 2, 4: 2, 5: 3, 65536: 16, 65537: -1} {
		wantDepth(t, n, want)
	}
	wantTurned(t, 1, 3, 4)
	wantTurned(t, 6, 3, 3)
	wantTurned(t, 4, 3, 1)
}

// P8.1: the least d with 2^d at least n, of every number that may be.
func TestDepthIsTheLeastThatReaches(t *testing.T) {
	for n, d := 0, 0; n <= 65536; n++ {
		if 1<<d < n {
			d++
		}
		wantDepth(t, n, d)
	}
}

// P8.1: the powers of two, and those beside them.
func TestDepthAtThePowersOfTwo(t *testing.T) {
	for d := 2; d <= 15; d++ {
		wantDepth(t, 1<<d-1, d)
		wantDepth(t, 1<<d, d)
		wantDepth(t, 1<<d+1, d+1)
	}
	wantDepth(t, 65535, 16)
	wantDepth(t, 65536, 16)
	wantDepth(t, 65537, -1)
}

// P8.1: of numbers that no list has, some of which would fit if they were cut.
func TestDepthOutside(t *testing.T) {
	for _, n := range []int{-1, -2, -16, -65536, -65537, math.MinInt32, math.MinInt, math.MinInt + 1} {
		wantDepth(t, n, -1)
	}
	for _, n := range []int{65537, 65538, 131072, math.MaxInt32, math.MaxUint32, 1 << 32, 1<<32 + 5, 1 << 62, math.MaxInt} {
		wantDepth(t, n, -1)
	}
}

// P8.1, P8.3: each number of each tree, turned, and there and back.
func TestTurned(t *testing.T) {
	for depth := range 17 {
		for k := range uint64(1) << depth {
			wantTurned(t, k, depth, turns(k, depth))
			if back := layout.Element(layout.Leaf(k, depth), depth); back != k {
				t.Fatalf("at the leaf of the element %d of depth %d stands %d", k, depth, back)
			}
			if back := layout.Leaf(layout.Element(k, depth), depth); back != k {
				t.Fatalf("the element at the leaf %d of depth %d has the leaf %d", k, depth, back)
			}
		}
	}
}

// P8.1: small trees, written out.
func TestTurnedSmallTrees(t *testing.T) {
	trees := [][]uint64{{0}, {0, 1}, {0, 2, 1, 3}, {0, 4, 2, 6, 1, 5, 3, 7}, {0, 8, 4, 12, 2, 10, 6, 14, 1, 9, 5, 13, 3, 11, 7, 15}}
	for depth, leaves := range trees {
		for i, leaf := range leaves {
			wantTurned(t, uint64(i), depth, leaf)
		}
	}
}

// P8.1: numbers just below 2^depth, just that, and far above.
func TestTurnedAtTheBound(t *testing.T) {
	for depth := range 17 {
		least := uint64(1) << depth
		wantTurned(t, least-1, depth, least-1)
		for _, k := range beyond(depth) {
			wantTurned(t, k, depth, 0)
		}
	}
	wantTurned(t, 1, 16, 32768)
	wantTurned(t, 65534, 16, 32767)
	wantTurned(t, 65535, 16, 65535)
	wantTurned(t, 65536, 16, 0)
}

// P8.1: depths that no tree may have, with numbers that would fit.
func TestTurnedUnfitDepths(t *testing.T) {
	for _, depth := range unfit {
		for _, k := range []uint64{0, 1, 2, 3, 6, 65535, 65536, 1 << 63, math.MaxUint64} {
			wantTurned(t, k, depth, 0)
		}
	}
}

// P8.3: each element has a leaf of its own, below 2^depth, and each leaf an element.
func TestEachLeafItsOwn(t *testing.T) {
	for depth := range 17 {
		taken := make([]int, 1<<depth)
		for i := range uint64(1) << depth {
			leaf := layout.Leaf(i, depth)
			if leaf >= uint64(len(taken)) {
				t.Fatalf("the leaf %d of depth %d is not there", leaf, depth)
			}
			taken[leaf]++
		}
		for leaf, times := range taken {
			if times != 1 {
				t.Errorf("the leaf %d of depth %d is that of %d elements", leaf, depth, times)
			}
		}
	}
}

// P8.3: two elements one behind the other lie in unlike halves, if there are two halves.
func TestNeighboursLieInUnlikeHalves(t *testing.T) {
	for depth := 1; depth <= 16; depth++ {
		half := uint64(1) << (depth - 1)
		for i := range uint64(1)<<depth - 1 {
			one, other := layout.Leaf(i, depth), layout.Leaf(i+1, depth)
			if (one < half) == (other < half) {
				t.Errorf("the elements %d and %d of depth %d lie in one half, at %d and %d", i, i+1, depth, one, other)
			}
		}
	}
}

// someNumbers are small ones, the greatest, those beside the powers of two, and others.
func someNumbers() []uint64 {
	all := []uint64{math.MaxUint64, math.MaxUint64 - 1}
	for k := range uint64(100) {
		all = append(all, k)
	}
	for shift := range 64 {
		power := uint64(1) << shift
		all = append(all, power-1, power, power+1)
	}
	draw := rand.New(rand.NewSource(8))
	for range 1000 {
		all = append(all, draw.Uint64())
	}
	return all
}

// P8.1: of the number alone, however great it is: the other kid of its parent, and half of it downwards.
func TestSiblingAndParent(t *testing.T) {
	for _, k := range someNumbers() {
		sibling := k + 1
		if k%2 == 1 {
			sibling = k - 1
		}
		if got := layout.Sibling(k); got != sibling {
			t.Errorf("Sibling(%d) is %d, not %d", k, got, sibling)
		}
		if got := layout.Parent(k); got != k/2 {
			t.Errorf("Parent(%d) is %d, not %d", k, got, k/2)
		}
		if layout.Parent(sibling) != layout.Parent(k) || layout.Sibling(sibling) != k {
			t.Errorf("%d and %d are no siblings", k, sibling)
		}
	}
}

// P8.1: some siblings and parents, written out.
func TestSiblingAndParentWrittenOut(t *testing.T) {
	rows := []struct{ k, sibling, parent uint64 }{
		{0, 1, 0}, {1, 0, 0}, {2, 3, 1}, {3, 2, 1}, {4, 5, 2}, {5, 4, 2}, {65535, 65534, 32767}, {65536, 65537, 32768},
		{1 << 63, 1<<63 + 1, 1 << 62}, {math.MaxUint64, math.MaxUint64 - 1, math.MaxInt64}, {math.MaxUint64 - 1, math.MaxUint64, math.MaxInt64},
	}
	for _, row := range rows {
		if sibling, parent := layout.Sibling(row.k), layout.Parent(row.k); sibling != row.sibling || parent != row.parent {
			t.Errorf("%d has the sibling %d and the parent %d, not %d and %d", row.k, sibling, parent, row.sibling, row.parent)
		}
	}
}
