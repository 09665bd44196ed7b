package proof_test

import (
	"math"
	"slices"
	"testing"

	"sextant/api"
)

// may tells by the chapter's words whether n elements have such positions.
func may(positions []uint64, n int) bool {
	for i, position := range positions {
		if position >= uint64(n) || slices.Max(positions[:i+1]) != position || slices.Contains(positions[:i], position) {
			return false
		}
	}
	return len(positions) > 0
}

// asMayBe is a call with as many digests as are needed, if the positions may be.
func asMayBe(n int, positions []uint64) asked {
	a := asked{n: n, positions: positions, elements: make([]string, len(positions))}
	if may(positions, n) {
		_, needed := reference(a)
		a.proof = digests(needed)
	}
	return a
}

// P11.1: each row of at most four numbers, those that are just too great among them.
func TestEachRowOfNumbers(t *testing.T) {
	for n := range 6 {
		var ask func(positions []uint64)
		ask = func(positions []uint64) {
			a := asMayBe(n, positions)
			if may(positions, n) {
				root, _ := reference(a)
				wantRoot(t, a, root)
			} else {
				wantRefused(t, a, api.ErrArg)
			}
			for k := range uint64(n + 2) {
				if len(positions) < 4 {
					ask(append(slices.Clone(positions), k))
				}
			}
		}
		ask(nil)
	}
}

// wantWrong asks that such positions are refused, with as many elements, and whatever the proof is.
func wantWrong(t *testing.T, n int, positions []uint64) {
	t.Helper()
	a := asked{n: n, positions: positions, elements: make([]string, len(positions))}
	for _, digests := range [][]string{nil, {""}, digests(1), digests(2), digests(3), digests(16), {hash("a"), "b"}} {
		wantRefused(t, a.with(digests), api.ErrArg)
	}
}

// P11.1, R4: no position, as a list that is nil and as one without elements, whatever memory lies behind.
func TestNoPosition(t *testing.T) {
	for _, n := range []int{0, 1, 2, 3, 5, 8, 100, 65536} {
		for _, positions := range [][]uint64{nil, {}, make([]uint64, 0, 4), each(3)[:0]} {
			wantWrong(t, n, positions)
			wantRefused(t, asked{n, positions, []string{}, []string{}}, api.ErrArg)
		}
	}
}

// P11.1, R4: a proof of no digests and one that is nil are the same.
func TestNoDigest(t *testing.T) {
	for _, none := range [][]string{nil, {}, make([]string, 0, 4), digests(3)[:0]} {
		wantRoot(t, asked{1, []uint64{0}, []string{"a"}, none}, hash("leaf", "a"))
		wantRoot(t, asked{2, []uint64{0, 1}, []string{"a", "b"}, none}, built(t, "a", "b").Root())
		wantRefused(t, asked{2, []uint64{0}, []string{"a"}, none}, api.ErrShort)
		wantRefused(t, asked{65536, []uint64{65535}, []string{"a"}, none}, api.ErrShort)
	}
}

// P11.1: positions that fall, or are twice the same, at each place of a long row.
func TestNotRising(t *testing.T) {
	for i := 1; i < 40; i++ {
		twice := each(40)
		twice[i] = twice[i-1]
		wantWrong(t, 40, twice)
		swapped := each(40)
		swapped[i-1], swapped[i] = swapped[i], swapped[i-1]
		wantWrong(t, 40, swapped)
		wantWrong(t, 40, append(each(i+1), uint64(i)))
		wantWrong(t, 40, append(each(i+1), uint64(i-1)))
		wantWrong(t, 40, append(each(i+1), 0))
		wantWrong(t, 40, []uint64{uint64(i), 0})
		wantWrong(t, 40, []uint64{uint64(i), uint64(i)})
	}
	wantWrong(t, 40, []uint64{0, 0})
	falling := each(40)
	slices.Reverse(falling)
	wantWrong(t, 40, falling)
}

// P11.1: just how many elements there are, also where a leaf without an element has that number, and far above.
func TestTooGreatPositions(t *testing.T) {
	for _, n := range []int{0, 1, 2, 3, 4, 5, 7, 8, 9, 17, 1000, 65535, 65536} {
		top := uint64(n)
		for _, k := range append(far(), top, top+1, 2*top, top+1<<32, -top) {
			if k < top {
				continue
			}
			for _, positions := range [][]uint64{{k}, {0, k}, {k, 0}, {k, k + 1}, {k - 1, k}} {
				wantWrong(t, n, positions)
			}
		}
		wantWrong(t, n, each(n+1))
		wantWrong(t, n, append(each(n), math.MaxUint64))
	}
}

// P11.1: n below 0 and above as many as may be, with positions that might be and with such that might not.
func TestWrongNumbersOfElements(t *testing.T) {
	numbers := []int{-1, -2, -5, -64, -65536, math.MinInt32, math.MinInt + 1, math.MinInt,
		api.MaxParts + 1, api.MaxParts + 2, 2 * api.MaxParts, 1 << 20, 1 << 32, 1<<32 + 5, math.MaxInt32, math.MaxInt - 1, math.MaxInt}
	for _, n := range numbers {
		for _, positions := range [][]uint64{nil, {0}, {1}, {0, 1}, {1, 0}, {0, 0}, {65535}, {65536}, {0, 65536}, {math.MaxUint64}, each(66000)} {
			wantWrong(t, n, positions)
			wantRefused(t, asked{n: n, positions: positions, elements: make([]string, len(positions)), proof: digests(17)}, api.ErrArg)
		}
	}
}

// P11.1: n at the bounds of what may be: of no elements there is no position; of 65536 the last one is 65535.
func TestNumbersOfElementsAtTheBounds(t *testing.T) {
	for _, positions := range [][]uint64{nil, {}, {0}, {1}, {0, 1}, {math.MaxUint64}} {
		wantWrong(t, 0, positions)
	}
	wantWrong(t, 1, []uint64{1})
	wantWrong(t, 65535, []uint64{65535})
	wantWrong(t, 65536, []uint64{65536})
	wantWrong(t, 65537, []uint64{0})
	wantWrong(t, 65537, []uint64{65536})
	for _, a := range []asked{asMayBe(1, []uint64{0}), asMayBe(65535, []uint64{65534}), asMayBe(65536, []uint64{65535}), asMayBe(65536, []uint64{0, 65535})} {
		root, _ := reference(a)
		wantRoot(t, a, root)
	}
}

// P11.1: fewer elements than positions, and more, of none to one more than twice as many.
func TestNotAsManyElementsAsPositions(t *testing.T) {
	for n := 1; n <= 6; n++ {
		elements := named(n)
		x := built(t, elements...)
		eachSet(n, func(positions []uint64) {
			a := shown(t, x, elements, positions)
			for many := range 2*n + 2 {
				if many != len(positions) {
					wantRefused(t, a.of(named(many)), api.ErrArg)
					wantRefused(t, a.of(named(many)).with(nil), api.ErrArg)
				}
			}
		})
	}
	all := asMayBe(65536, each(65536))
	wantRefused(t, all.of(all.elements[1:]), api.ErrArg)
	wantRefused(t, all.of(append(all.elements, "")), api.ErrArg)
	wantRefused(t, all.of(nil), api.ErrArg)
}

// P11.1: a digest that has not 32 bytes, at each place of a proof.
func TestDigestsOfOtherLengths(t *testing.T) {
	long := hash("a") + hash("b") + "more"
	for n := 2; n <= 8; n++ {
		elements := named(n)
		x := built(t, elements...)
		eachSet(n, func(positions []uint64) {
			a := shown(t, x, elements, positions)
			for i, digest := range a.proof {
				for _, wrong := range []string{"", digest[:31], digest[1:], digest[:1], digest + "\x00", long[:33], long[:64], long} {
					wantRefused(t, a.with(replaced(a.proof, i, wrong)), api.ErrForm)
				}
			}
		})
	}
	a := asMayBe(65536, []uint64{0, 7, 65535})
	for i := range a.proof {
		wantRefused(t, a.with(replaced(a.proof, i, "")), api.ErrForm)
		wantRefused(t, a.with(replaced(a.proof, i, long[:31])), api.ErrForm)
		wantRefused(t, a.with(replaced(a.proof, i, long[:33])), api.ErrForm)
	}
}

// P11.1: two wrong digests that have 64 bytes together are no two digests.
func TestDigestsCutElsewhere(t *testing.T) {
	a := proven(t, named(5), []uint64{1, 4})
	for i := 1; i < len(a.proof); i++ {
		both := a.proof[i-1] + a.proof[i]
		cut := slices.Clone(a.proof)
		cut[i-1], cut[i] = both[:31], both[31:]
		wantRefused(t, a.with(cut), api.ErrForm)
		cut[i-1], cut[i] = both, ""
		wantRefused(t, a.with(cut), api.ErrForm)
	}
}

// P11.1, P11.3: a digest left out at each place, one more at each place, one doubled, all of it twice.
func TestTooFewAndTooManyDigests(t *testing.T) {
	more := hash("more")
	for n := 1; n <= 8; n++ {
		elements := named(n)
		x := built(t, elements...)
		eachSet(n, func(positions []uint64) {
			a := shown(t, x, elements, positions)
			for i := range a.proof {
				wantRefused(t, a.with(slices.Delete(slices.Clone(a.proof), i, i+1)), api.ErrShort)
				wantRefused(t, a.with(a.proof[:i]), api.ErrShort)
				wantRefused(t, a.with(a.proof[len(a.proof)-i:]), api.ErrShort)
				wantRefused(t, a.with(slices.Insert(slices.Clone(a.proof), i, a.proof[i])), api.ErrLong)
				wantRefused(t, a.with(slices.Insert(slices.Clone(a.proof), i, more)), api.ErrLong)
			}
			wantRefused(t, a.with(append(slices.Clone(a.proof), more)), api.ErrLong)
			wantRefused(t, a.with(append(slices.Clone(a.proof), hash("none"))), api.ErrLong)
			wantRefused(t, a.with(append(slices.Clone(a.proof), digests(9)...)), api.ErrLong)
			if len(a.proof) > 0 {
				wantRefused(t, a.with(slices.Repeat(a.proof, 2)), api.ErrLong)
			}
		})
	}
}

// P11.1: many more digests than any proof has.
func TestVeryManyDigests(t *testing.T) {
	many := slices.Repeat(digests(1), 1<<20)
	wantRefused(t, asked{65536, []uint64{9}, []string{"a"}, many}, api.ErrLong)
	wantRefused(t, asked{1, []uint64{0}, []string{"a"}, many}, api.ErrLong)
	wantRefused(t, asked{1, []uint64{0}, []string{"a"}, replaced(many, 1<<20-1, "")}, api.ErrForm)
}

// P11.1, P11.2: two digests exchanged, or one in another one's stead, give another root, if they are not alike.
func TestExchangedDigests(t *testing.T) {
	for n := 2; n <= 7; n++ {
		elements := named(n)
		x := built(t, elements...)
		eachSet(n, func(positions []uint64) {
			a := shown(t, x, elements, positions)
			for i := range a.proof {
				for j := range i {
					exchanged := slices.Clone(a.proof)
					exchanged[i], exchanged[j] = exchanged[j], exchanged[i]
					for _, other := range [][]string{exchanged, replaced(a.proof, i, a.proof[j]), replaced(a.proof, j, a.proof[i])} {
						wantOtherRoot(t, a, x.Root(), other)
					}
				}
			}
		})
	}
}

// wantOtherRoot holds a proof of as many digests against the reference, and asks Check of the list's own root.
func wantOtherRoot(t *testing.T, a asked, list string, other []string) {
	t.Helper()
	b := a.with(other)
	root, _ := reference(b)
	wantRoot(t, b, root)
	want := api.ErrProof
	if slices.Equal(other, a.proof) {
		want = api.OK
	}
	wantCheck(t, b, list, want)
}

// P11.1, P11.2: no digest of a proof is idle: each other one at its place gives another root.
func TestEachDigestCounts(t *testing.T) {
	for n := 2; n <= 9; n++ {
		elements := named(n)
		x := built(t, elements...)
		eachSet(n, func(positions []uint64) {
			a := shown(t, x, elements, positions)
			for i := range a.proof {
				wantOtherRoot(t, a, x.Root(), replaced(a.proof, i, hash("another")))
			}
		})
	}
}
