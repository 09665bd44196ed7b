package multi_test

import (
	"math"
	"slices"
	"testing"

	"sextant/api"
	"sextant/multi"
	"sextant/tree"
)

// may tells by the chapter's words whether n elements have such positions.
func may(positions []uint64, n int) bool {
	for i, position := range positions {
		if position >= uint64(n) || slices.Max(positions[:i+1]) != position || slices.Contains(positions[:i], position) {
			return false
		}
	}
	return len(positions) > 0
}

// wantAsMay asks that both calls take just the positions that may be.
func wantAsMay(t *testing.T, x *tree.Tree, positions []uint64) {
	t.Helper()
	if may(positions, x.Len()) {
		wantProof(t, x, positions, reference(t, x, positions)...)
	} else {
		wantWrong(t, x, positions)
	}
}

// P10.1, P10.2: each row of at most four numbers, those that are just too great among them.
func TestEachRowOfNumbers(t *testing.T) {
	for n := range 6 {
		x := built(t, named(n)...)
		var ask func(positions []uint64)
		ask = func(positions []uint64) {
			wantAsMay(t, x, positions)
			for k := range uint64(n + 2) {
				if len(positions) < 4 {
					ask(append(slices.Clone(positions), k))
				}
			}
		}
		ask(nil)
	}
}

// P10.1, P10.2, R4: no position, as a list that is nil and as one without elements, whatever memory lies behind.
func TestNoPosition(t *testing.T) {
	for _, n := range []int{0, 1, 2, 3, 5, 8, 100, 65536} {
		x := built(t, make([]string, n)...)
		for _, positions := range [][]uint64{nil, {}, make([]uint64, 0, 4), each(3)[:0]} {
			wantWrong(t, x, positions)
		}
	}
}

// P10.1, P10.2: positions that fall, or are twice the same, at each place of a long row.
func TestNotRising(t *testing.T) {
	x := built(t, named(40)...)
	for i := 1; i < 40; i++ {
		twice := each(40)
		twice[i] = twice[i-1]
		wantWrong(t, x, twice)
		swapped := each(40)
		swapped[i-1], swapped[i] = swapped[i], swapped[i-1]
		wantWrong(t, x, swapped)
		wantWrong(t, x, append(each(i+1), uint64(i)))
		wantWrong(t, x, append(each(i+1), uint64(i-1)))
		wantWrong(t, x, append(each(i+1), 0))
		wantWrong(t, x, []uint64{uint64(i), 0})
		wantWrong(t, x, []uint64{uint64(i), uint64(i)})
	}
	wantWrong(t, x, []uint64{0, 0})
	falling := each(40)
	slices.Reverse(falling)
	wantWrong(t, x, falling)
}

// P10.1, P10.2: more positions than there are elements, so that some of them must be wrong.
func TestMorePositionsThanElements(t *testing.T) {
	for _, n := range []int{0, 1, 2, 3, 8, 65536} {
		x := built(t, make([]string, n)...)
		wantWrong(t, x, each(n+1))
		wantWrong(t, x, each(n+100000))
		wantWrong(t, x, append(each(n), each(n+1)...))
		wantWrong(t, x, make([]uint64, n+2))
	}
}

// P10.1, P10.2: just how many elements there are, also where a leaf without an element has that number, and far above.
func TestTooGreatPositions(t *testing.T) {
	for _, n := range []int{0, 1, 2, 3, 4, 5, 7, 8, 9, 17, 1000, 65535, 65536} {
		x := built(t, make([]string, n)...)
		top := uint64(n)
		for _, k := range append(far(), top, top+1, 2*top, top+1<<32, -top) {
			if k < top {
				continue
			}
			wantWrong(t, x, []uint64{k})
			wantWrong(t, x, []uint64{0, k})
			wantWrong(t, x, []uint64{k, 0})
			wantWrong(t, x, []uint64{k, k + 1})
			wantWrong(t, x, append(each(n), k))
			wantWrong(t, x, append([]uint64{k}, each(n)...))
		}
	}
}

// P10.1, R3: of a tree that is none it is ErrNil, ahead of all that may be wrong with the positions.
func TestNoTree(t *testing.T) {
	for _, x := range []*tree.Tree{nil, {}} {
		for _, positions := range [][]uint64{nil, {}, {0}, {0, 1}, {1, 0}, {0, 0}, {65536}, {math.MaxUint64}, each(100)} {
			wantRefused(t, x, positions, api.ErrNil)
		}
	}
}

// P10.2: n below 0 and above as many as may be, with positions that may be and with such that may not.
func TestSizeOfWrongNumbers(t *testing.T) {
	numbers := []int{-1, -2, -5, -64, -65536, math.MinInt32, math.MinInt + 1, math.MinInt,
		api.MaxParts + 1, api.MaxParts + 2, 2 * api.MaxParts, 1 << 20, 1 << 32, 1<<32 + 5, math.MaxInt32, math.MaxInt - 1, math.MaxInt}
	for _, n := range numbers {
		for _, positions := range [][]uint64{nil, {}, {0}, {1}, {0, 1}, {1, 0}, {0, 0}, {65535}, {65536}, {0, 65536}, {math.MaxUint64}, each(70000)} {
			wantNoSize(t, n, positions)
		}
	}
}

// P10.2: n at the bounds of what may be: of no elements there is no position; of 65536 the last one is 65535.
func TestSizeAtTheBounds(t *testing.T) {
	for _, positions := range [][]uint64{nil, {}, {0}, {1}, {0, 1}, {math.MaxUint64}} {
		wantNoSize(t, 0, positions)
	}
	wantSize(t, 1, []uint64{0}, 0)
	wantNoSize(t, 1, []uint64{1})
	wantNoSize(t, 1, []uint64{0, 1})
	wantSize(t, 65535, []uint64{65534}, 16)
	wantNoSize(t, 65535, []uint64{65535})
	wantSize(t, 65536, []uint64{0}, 16)
	wantSize(t, 65536, []uint64{65535}, 16)
	wantSize(t, 65536, []uint64{0, 65535}, 30)
	wantSize(t, 65536, []uint64{0, 32768}, 15)
	wantSize(t, 65536, each(65536), 0)
	wantNoSize(t, 65536, []uint64{65536})
	wantNoSize(t, 65536, each(65537))
	wantNoSize(t, 65537, []uint64{0})
	wantNoSize(t, 65537, []uint64{65536})
}

// P10.1, R2: what was refused changes nothing: the next answers are the same as ahead of it.
func TestRefusedChangesNothing(t *testing.T) {
	x := built(t, named(5)...)
	want := proven(t, x, []uint64{0, 3})
	wantWrong(t, x, []uint64{3, 0})
	wantWrong(t, x, []uint64{0, 5})
	wantWrong(t, x, nil)
	wantRefused(t, nil, []uint64{0}, api.ErrNil)
	wantProof(t, x, []uint64{0, 3}, want...)
}

// R5: positions stay as they were, those behind the list's end too, and so does the tree.
func TestNothingHandedInIsChanged(t *testing.T) {
	x := built(t, named(13)...)
	root := x.Root()
	for _, row := range [][]uint64{{0, 1, 5, 12, 7, 3}, {2, 9, 10, 11, 4, 4}, {12, 5, 3, 2, 1, 0}, {0, 0, 13, 99, 1, 2}} {
		kept := slices.Clone(row)
		for n := range len(row) + 1 {
			multi.Prove(x, row[:n])
			multi.Size(13, row[:n])
			if !slices.Equal(row, kept) {
				t.Fatalf("the positions %v have become %v", kept, row)
			}
		}
	}
	if x.Root() != root || x.Len() != 13 || x.Depth() != 4 {
		t.Error("the tree has changed")
	}
	eachSet(13, func(positions []uint64) { proven(t, x, positions) })
	for i := range uint64(13) {
		wantProof(t, x, []uint64{i}, reference(t, built(t, named(13)...), []uint64{i})...)
	}
}

// R5: changing an answer, or the positions that were handed in, changes no later answer.
func TestAnswersAreNew(t *testing.T) {
	x := built(t, named(9)...)
	positions := []uint64{1, 4, 8}
	want := reference(t, x, positions)
	first := proven(t, x, positions)
	second := proven(t, x, positions)
	first = append(first[:cap(first)], "more")
	for i := range first {
		first[i] = "changed"
	}
	if !slices.Equal(second, want) {
		t.Error("an answer has changed with another one")
	}
	wantProof(t, x, positions, want...)
	positions[0], positions[2] = 0, 5
	if !slices.Equal(second, want) {
		t.Error("an answer has changed with the positions")
	}
	wantProof(t, x, []uint64{1, 4, 8}, want...)
}

// R6: the same call answers the same, though what is known is gathered without an order.
func TestTheSameAgain(t *testing.T) {
	x := built(t, named(1000)...)
	positions := []uint64{0, 1, 17, 33, 90, 250, 251, 512, 600, 601, 777, 900, 998, 999}
	want := reference(t, x, positions)
	for range 200 {
		wantProof(t, x, positions, want...)
	}
}
