package proof_test

import (
	"crypto/sha256"
	"encoding/binary"
	"math"
	"math/rand"
	"slices"
	"strconv"
	"testing"

	"sextant/api"
	"sextant/multi"
	"sextant/proof"
	"sextant/tree"
)

// asked is one call's arguments, but for the root that Check is handed.
type asked struct {
	n         int
	positions []uint64
	elements  []string
	proof     []string
}

func (a asked) root() (string, api.Errno) {
	return proof.Root(a.n, a.positions, a.elements, a.proof)
}

func (a asked) check(root string) api.Errno {
	return proof.Check(root, a.n, a.positions, a.elements, a.proof)
}

// with is the same call with another proof.
func (a asked) with(proof []string) asked {
	a.proof = proof
	return a
}

// at is the same call with other positions.
func (a asked) at(positions []uint64) asked {
	a.positions = positions
	return a
}

// of is the same call with other elements.
func (a asked) of(elements []string) asked {
	a.elements = elements
	return a
}

// among is the same call of another number of elements.
func (a asked) among(n int) asked {
	a.n = n
	return a
}

// hash is that of a tag and texts, put together by the library's own means.
func hash(tag string, texts ...string) string {
	frame := append([]byte{byte(len(tag))}, tag...)
	for _, text := range texts {
		frame = binary.BigEndian.AppendUint64(frame, uint64(len(text)))
		frame = append(frame, text...)
	}
	sum := sha256.Sum256(frame)
	return string(sum[:])
}

// depthOf is the least depth whose leaves are enough.
func depthOf(n int) int {
	depth := 0
	for 1<<depth < n {
		depth++
	}
	return depth
}

// leafOf is where an element stands: its bits, from the lowest on, one by one.
func leafOf(i uint64, depth int) uint64 {
	leaf := uint64(0)
	for range depth {
		leaf = leaf*2 + i%2
		i /= 2
	}
	return leaf
}

// reference goes through all places of all levels, by the chapter's words; an unknown place is one of no bytes.
// It also tells how many digests were needed; of a proof that has not so many the root is none.
func reference(a asked) (root string, needed int) {
	depth := depthOf(a.n)
	level := make([]string, 1<<depth)
	for i, position := range a.positions {
		level[leafOf(position, depth)] = hash("leaf", a.elements[i])
	}
	for len(level) > 1 {
		higher := make([]string, len(level)/2)
		taken := slices.Clone(level)
		for k := range level {
			if level[k] != "" || level[k^1] == "" {
				continue
			}
			taken[k] = "lacking"
			if needed < len(a.proof) {
				taken[k] = a.proof[needed]
			}
			needed++
		}
		for k := range higher {
			if taken[2*k] != "" {
				higher[k] = hash("node", taken[2*k], taken[2*k+1])
			}
		}
		level = higher
	}
	if needed != len(a.proof) {
		return "", needed
	}
	return level[0], needed
}

// named are so many elements, no two alike.
func named(n int) []string {
	all := make([]string, n)
	for i := range all {
		all[i] = "element " + strconv.Itoa(i)
	}
	return all
}

// digests are so many texts of 32 bytes, no two alike.
func digests(n int) []string {
	all := make([]string, n)
	for i := range all {
		all[i] = hash("digest", strconv.Itoa(i))
	}
	return all
}

// each are the positions of all n elements.
func each(n int) []uint64 {
	all := make([]uint64, n)
	for i := range all {
		all[i] = uint64(i)
	}
	return all
}

// eachSet hands on each set of at least one position of n elements, rising.
func eachSet(n int, do func(positions []uint64)) {
	for chosen := 1; chosen < 1<<n; chosen++ {
		var positions []uint64
		for i := range n {
			if chosen>>i%2 == 1 {
				positions = append(positions, uint64(i))
			}
		}
		do(positions)
	}
}

// drawn are at most so many positions of n elements, rising.
func drawn(draw *rand.Rand, n, most int) []uint64 {
	positions := make([]uint64, most)
	for i := range positions {
		positions[i] = uint64(draw.Intn(n))
	}
	slices.Sort(positions)
	return slices.Compact(positions)
}

// sets are some sets of positions of n elements, that are too many for all their sets: all, the first one, the last
// one, both, halves, all but one, each second one, and drawn ones.
func sets(n int) [][]uint64 {
	all := each(n)
	sets := [][]uint64{all, all[:1], all[n-1:], all[n/2 : n/2+1], all[n/2:], all[:n/2+1]}
	var second []uint64
	for i := 0; i < n; i += 2 {
		second = append(second, uint64(i))
	}
	sets = append(sets, second)
	if n > 1 {
		sets = append(sets, []uint64{0, uint64(n - 1)}, all[1:], all[:n-1])
	}
	draw := rand.New(rand.NewSource(int64(n)))
	for _, most := range []int{2, 3, 10, 640} {
		sets = append(sets, drawn(draw, n, most))
	}
	return sets
}

func built(t *testing.T, elements ...string) *tree.Tree {
	t.Helper()
	x, e := tree.Build(elements)
	if e != api.OK {
		t.Fatalf("Build of %d elements is %v", len(elements), e)
	}
	return x
}

// chosen are the elements at the positions.
func chosen(elements []string, positions []uint64) []string {
	some := make([]string, len(positions))
	for i, position := range positions {
		some[i] = elements[position]
	}
	return some
}

// proven is what a proof of the elements at the positions, made by multi, is asked with.
func proven(t *testing.T, elements []string, positions []uint64) asked {
	t.Helper()
	return shown(t, built(t, elements...), elements, positions)
}

// shown is likewise of a tree that there is already.
func shown(t *testing.T, x *tree.Tree, elements []string, positions []uint64) asked {
	t.Helper()
	digests, e := multi.Prove(x, positions)
	if e != api.OK {
		t.Fatalf("Prove of %d elements at %.100v is %v", len(elements), positions, e)
	}
	return asked{len(elements), positions, chosen(elements, positions), digests}
}

// replaced is the list with another text at one place.
func replaced(list []string, i int, text string) []string {
	other := slices.Clone(list)
	other[i] = text
	return other
}

// wantRoot asks both calls: Root for this root, and Check to take this one, and not one with another bit.
func wantRoot(t *testing.T, a asked, want string) {
	t.Helper()
	if got, e := a.root(); e != api.OK || got != want {
		t.Fatalf("Root(%d, %.100v, %.100q, %.400x) is %x, %v, not %x, OK", a.n, a.positions, a.elements, a.proof, got, e, want)
	}
	wantCheck(t, a, want, api.OK)
	wantCheck(t, a, flipped(want, len(want)-1), api.ErrProof)
}

// flipped is the text with another bit in one of its bytes.
func flipped(text string, i int) string {
	bytes := []byte(text)
	bytes[i] ^= 1 << (i % 8)
	return string(bytes)
}

// others are texts that are not this root: one bit another, other lengths, none.
func others(root string) []string {
	return []string{flipped(root, 0), flipped(root, 15), flipped(root, 31), root[:31], root[1:], root + "\x00", "\x00" + root, root + root, "", hash("none")}
}

func wantCheck(t *testing.T, a asked, root string, want api.Errno) {
	t.Helper()
	if got := a.check(root); got != want {
		t.Fatalf("Check(%x, %d, %.100v, %.100q, %.400x) is %v, not %v", root, a.n, a.positions, a.elements, a.proof, got, want)
	}
}

// wantRefused asks both calls for the same error, whatever root Check is handed.
func wantRefused(t *testing.T, a asked, want api.Errno) {
	t.Helper()
	if got, e := a.root(); e != want || got != "" {
		t.Fatalf("Root(%d, %.100v, %.100q, %.400x) is %x, %v, not nothing, %v", a.n, a.positions, a.elements, a.proof, got, e, want)
	}
	for _, root := range []string{"", hash("none"), hash("leaf", "a"), "short"} {
		wantCheck(t, a, root, want)
	}
}

// far are numbers that are far above those of all elements, some of which would fit if they were cut, or taken with a sign.
func far() []uint64 {
	all := []uint64{65536, 65537, math.MaxUint64, math.MaxUint64 - 1, math.MaxInt64, math.MaxUint32}
	for shift := 17; shift < 64; shift++ {
		all = append(all, 1<<shift, 1<<shift+1)
	}
	return all
}
