package proof_test

import (
	"slices"
	"strings"
	"testing"

	"sextant/api"
)

// wrongArgs are calls that differ from one that may be in their arguments alone, but for the proof.
func wrongArgs(a asked) []asked {
	return []asked{
		a.among(-1), a.among(0), a.among(65537), a.among(int(a.positions[0])),
		a.at(nil), a.at(a.positions[1:]), a.at([]uint64{2, 1}), a.at([]uint64{1, 1}), a.at([]uint64{1, 5}), a.at([]uint64{1, 1 << 63}),
		a.of(nil), a.of(a.elements[1:]), a.of(append(slices.Clone(a.elements), "x")),
	}
}

// P11.1, R2: of two errors that apply the one that is named first is the answer.
func TestWhichErrorComesFirst(t *testing.T) {
	a := proven(t, named(5), []uint64{1, 4})
	for i := range a.proof {
		wrong := replaced(a.proof, i, a.proof[i][:31])
		for _, b := range wrongArgs(a) {
			wantRefused(t, b.with(wrong), api.ErrArg)       // ahead of ErrForm
			wantRefused(t, b.with(a.proof[:i]), api.ErrArg) // ahead of ErrShort
			wantRefused(t, b.with(append(wrong, "")), api.ErrArg)
			wantRefused(t, b.with(digests(5+i)), api.ErrArg) // ahead of ErrLong
		}
		wantRefused(t, a.with(wrong[:i+1]), api.ErrForm) // ahead of ErrShort
		wantRefused(t, a.with(wrong[i:]), api.ErrForm)
		wantRefused(t, a.with(append(slices.Clone(wrong), hash("more"))), api.ErrForm) // ahead of ErrLong
		wantRefused(t, a.with(append(digests(4+i), "")), api.ErrForm)                  // though what is wrong is not needed
		wantRefused(t, a.with(slices.Insert(digests(4+i), i, strings.Repeat("x", 33))), api.ErrForm)
	}
	wantRefused(t, a.with([]string{""}), api.ErrForm)
	wantRefused(t, asked{1, []uint64{0}, []string{"a"}, []string{"b"}}, api.ErrForm)
	wantRefused(t, asked{}, api.ErrArg)
}

// P11.2: Check tells Root's error, whatever the root is, also the one that would come; it takes just that one.
func TestCheck(t *testing.T) {
	for n := 1; n <= 6; n++ {
		elements := named(n)
		x := built(t, elements...)
		eachSet(n, func(positions []uint64) {
			a := shown(t, x, elements, positions)
			wantCheck(t, a, x.Root(), api.OK)
			for _, other := range others(x.Root()) {
				wantCheck(t, a, other, api.ErrProof)
			}
			wantCheck(t, a.among(-n), x.Root(), api.ErrArg)
			wantCheck(t, a.of(nil), x.Root(), api.ErrArg)
			wantCheck(t, a.with(append(slices.Clone(a.proof), "")), x.Root(), api.ErrForm)
			wantCheck(t, a.with(append(slices.Clone(a.proof), hash("more"))), x.Root(), api.ErrLong)
			if len(a.proof) > 0 {
				wantCheck(t, a.with(a.proof[1:]), x.Root(), api.ErrShort)
			}
		})
	}
}

// P11.2: each byte of the root counts, each bit of it.
func TestEachBitOfTheRoot(t *testing.T) {
	a := proven(t, named(5), []uint64{0, 3})
	root, _ := a.root()
	for i := range 8 * len(root) {
		other := []byte(root)
		other[i/8] ^= 1 << (i % 8)
		wantCheck(t, a, string(other), api.ErrProof)
	}
	for size := range root {
		wantCheck(t, a, root[:size], api.ErrProof)
	}
	wantCheck(t, a, root, api.OK)
}

// R5: lists that are handed in stay as they were, those behind their ends too.
func TestNothingHandedInIsChanged(t *testing.T) {
	elements := named(9)
	x := built(t, elements...)
	eachSet(9, func(positions []uint64) {
		a := shown(t, x, elements, positions)
		for _, many := range []int{0, len(a.proof) / 2, len(a.proof), len(a.proof) + 1} {
			whole := asked{9, append(slices.Clone(positions), 77, 78), append(slices.Clone(a.elements), "y", "z"), append(slices.Clone(a.proof), hash("y"), "z")}
			kept := asked{9, slices.Clone(whole.positions), slices.Clone(whole.elements), slices.Clone(whole.proof)}
			b := whole.at(whole.positions[:len(positions)]).of(whole.elements[:len(positions)]).with(whole.proof[:many])
			b.root()
			b.check(x.Root())
			if !slices.Equal(whole.positions, kept.positions) || !slices.Equal(whole.elements, kept.elements) || !slices.Equal(whole.proof, kept.proof) {
				t.Fatalf("what was handed in has become %v, not %v", whole, kept)
			}
		}
	})
}

// R5: changing what was handed in changes no earlier answer, and the next calls answer of what they are handed.
func TestAnswersAreNew(t *testing.T) {
	a := proven(t, named(9), []uint64{1, 4, 8})
	want, _ := reference(a)
	kept := asked{9, slices.Clone(a.positions), slices.Clone(a.elements), slices.Clone(a.proof)}
	got, _ := a.root()
	a.positions[1], a.elements[0], a.proof[0] = 5, "changed", hash("changed")
	if got != want {
		t.Error("an answer has changed with what was handed in")
	}
	other, _ := reference(a)
	wantRoot(t, a, other)
	wantRoot(t, kept, want)
}

// R2, R6: the same call answers the same, though what is known is gone through without an order, and whatever was refused between.
func TestTheSameAgain(t *testing.T) {
	positions := []uint64{0, 1, 17, 33, 90, 250, 251, 512, 600, 601, 777, 900, 998, 999}
	a := proven(t, named(1000), positions)
	want, _ := reference(a)
	for range 100 {
		wantRoot(t, a, want)
		wantRefused(t, a.with(a.proof[1:]), api.ErrShort)
		wantRefused(t, a.of(nil), api.ErrArg)
	}
}
