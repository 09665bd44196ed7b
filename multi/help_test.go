package multi_test

import (
	"math"
	"math/rand"
	"slices"
	"strconv"
	"testing"

	"sextant/api"
	"sextant/dom"
	"sextant/layout"
	"sextant/multi"
	"sextant/tree"
)

// named are so many elements, no two alike.
func named(n int) []string {
	all := make([]string, n)
	for i := range all {
		all[i] = "element " + strconv.Itoa(i)
	}
	return all
}

func built(t *testing.T, elements ...string) *tree.Tree {
	t.Helper()
	x, e := tree.Build(elements)
	if e != api.OK {
		t.Fatalf("Build of %d elements is %v", len(elements), e)
	}
	return x
}

// each are the positions of all n elements.
func each(n int) []uint64 {
	all := make([]uint64, n)
	for i := range all {
		all[i] = uint64(i)
	}
	return all
}

// eachSet hands on each set of at least one position of n elements, rising.
func eachSet(n int, do func(positions []uint64)) {
	for chosen := 1; chosen < 1<<n; chosen++ {
		var positions []uint64
		for i := range n {
			if chosen>>i%2 == 1 {
				positions = append(positions, uint64(i))
			}
		}
		do(positions)
	}
}

// drawn are at most so many positions of n elements, rising.
func drawn(draw *rand.Rand, n, most int) []uint64 {
	positions := make([]uint64, most)
	for i := range positions {
		positions[i] = uint64(draw.Intn(n))
	}
	slices.Sort(positions)
	return slices.Compact(positions)
}

// sets are some sets of positions of n elements, that are too many for all their sets: one, the first and the last one,
// all, both sides of the middle, each second one, halves, all but one, and drawn ones.
func sets(n int) [][]uint64 {
	all := each(n)
	middle := n / 2
	sets := [][]uint64{all, all[:1], all[n-1:], all[middle:], all[:middle+1], all[middle : middle+1], all[:n-n/3], all[n/3:]}
	if n > 1 {
		sets = append(sets, all[1:], all[:n-1], all[middle-1:middle+1], []uint64{0, uint64(n - 1)}, append(slices.Clone(all[:middle]), all[middle+1:]...))
	}
	for step := 2; step < n; step *= 3 {
		var spread []uint64
		for i := 0; i < n; i += step {
			spread = append(spread, uint64(i))
		}
		sets = append(sets, spread)
	}
	draw := rand.New(rand.NewSource(int64(n)))
	for _, most := range []int{1, 2, 3, 10, 100, 640} {
		sets = append(sets, drawn(draw, n, most))
	}
	return sets
}

// reference goes through all places of all levels below the root's, and so finds the needed ones' digests in their order.
func reference(t *testing.T, x *tree.Tree, positions []uint64) []string {
	t.Helper()
	var proof []string
	for level := range x.Depth() {
		known := make([]bool, 1<<(x.Depth()-level))
		for _, i := range positions {
			known[layout.Leaf(i, x.Depth())>>level] = true
		}
		for k := range known {
			other := k + 1 - 2*(k%2)
			if known[k] || !known[other] {
				continue
			}
			digest, is := x.At(level, uint64(k))
			if !is {
				t.Fatalf("there is no place %d on the level %d of %d elements", k, level, x.Len())
			}
			proof = append(proof, digest)
		}
	}
	return proof
}

// climbed is the root that comes of the elements and a proof, level by level; nothing, if digests are lacking or left.
func climbed(n int, elements map[uint64]string, proof []string) string {
	depth := layout.Depth(n)
	known := map[uint64]string{}
	for i, element := range elements {
		known[layout.Leaf(i, depth)] = dom.Hash("leaf", element)
	}
	for range depth {
		var lacking []uint64
		for k := range known {
			if _, is := known[layout.Sibling(k)]; !is {
				lacking = append(lacking, layout.Sibling(k))
			}
		}
		if len(lacking) > len(proof) {
			return ""
		}
		slices.Sort(lacking)
		for i, k := range lacking {
			known[k] = proof[i]
		}
		proof = proof[len(lacking):]
		higher := map[uint64]string{}
		for k := range known {
			if k%2 == 0 {
				higher[layout.Parent(k)] = dom.Hash("node", known[k], known[k+1])
			}
		}
		known = higher
	}
	if len(proof) > 0 {
		return ""
	}
	return known[0]
}

// shown are the elements at the positions.
func shown(elements []string, positions []uint64) map[uint64]string {
	some := map[uint64]string{}
	for _, i := range positions {
		some[i] = elements[i]
	}
	return some
}

func proven(t *testing.T, x *tree.Tree, positions []uint64) []string {
	t.Helper()
	proof, e := multi.Prove(x, positions)
	if e != api.OK {
		t.Fatalf("Prove of %d elements at %.100v is %v", x.Len(), positions, e)
	}
	return proof
}

func wantProof(t *testing.T, x *tree.Tree, positions []uint64, want ...string) {
	t.Helper()
	if got := proven(t, x, positions); !slices.Equal(got, want) {
		t.Errorf("Prove of %d elements at %.100v is %.400x, not %.400x", x.Len(), positions, got, want)
	}
	wantSize(t, x.Len(), positions, len(want))
}

func wantSize(t *testing.T, n int, positions []uint64, want int) {
	t.Helper()
	if got, e := multi.Size(n, positions); e != api.OK || got != want {
		t.Errorf("Size of %d elements at %.100v is %d, %v, not %d", n, positions, got, e, want)
	}
}

func wantRefused(t *testing.T, x *tree.Tree, positions []uint64, want api.Errno) {
	t.Helper()
	if proof, e := multi.Prove(x, positions); len(proof) != 0 || e != want {
		t.Errorf("Prove of %d elements at %.100v is %.400x, %v, not nothing, %v", x.Len(), positions, proof, e, want)
	}
}

func wantNoSize(t *testing.T, n int, positions []uint64) {
	t.Helper()
	if size, e := multi.Size(n, positions); size != 0 || e != api.ErrArg {
		t.Errorf("Size of %d elements at %.100v is %d, %v, not 0, ErrArg", n, positions, size, e)
	}
}

// wantWrong asks of both calls that they refuse such positions.
func wantWrong(t *testing.T, x *tree.Tree, positions []uint64) {
	t.Helper()
	wantRefused(t, x, positions, api.ErrArg)
	wantNoSize(t, x.Len(), positions)
}

// far are numbers that are far above those of all elements, some of which would fit if they were cut, or taken with a sign.
func far() []uint64 {
	all := []uint64{65536, 65537, math.MaxUint64, math.MaxUint64 - 1, math.MaxInt64, math.MaxUint32}
	for shift := 17; shift < 64; shift++ {
		all = append(all, 1<<shift, 1<<shift+1)
	}
	return all
}
