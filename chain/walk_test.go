package chain_test

import (
	"encoding/hex"
	"testing"

	"sextant/chain"
	"sextant/dom"
)

// P12.2: the chapter's examples.
func TestWalkExamples(t *testing.T) {
	wantWalk(t, 5, 3, 3, "x", "x")
	wantWalk(t, 5, 3, 2, "x", "")
	wantWalk(t, 67, 3, 3, "x", "")
	wantWalk(t, 67, 3, 5, "x", "")
}

// P12.2: one step is Hash of the tag and the three parts, in their order.
func TestOneStep(t *testing.T) {
	for i := range 67 {
		for j := range 15 {
			for _, x := range []string{"", "x", rising()} {
				want := dom.Hash("chain", string([]byte{byte(i)}), string([]byte{byte(j)}), x)
				wantWalk(t, i, j, j+1, x, want)
			}
		}
	}
}

// P12.2: frames whose bytes are written out, one behind the other.
func TestStepsWrittenOut(t *testing.T) {
	ahead := "0563686169" + "6e" + "0000000000000001"
	first := unhex(t, ahead+"05"+"0000000000000001"+"03"+"0000000000000001"+"78")
	second := unhex(t, ahead+"05"+"0000000000000001"+"04"+"0000000000000020")
	stands := sum(first)
	wantWalk(t, 5, 3, 4, "x", stands)
	wantWalk(t, 5, 3, 5, "x", sum(second+stands))
	last := unhex(t, ahead+"42"+"0000000000000001"+"0e"+"0000000000000000")
	wantWalk(t, 66, 14, 15, "", sum(last))
}

func unhex(t *testing.T, text string) string {
	t.Helper()
	bytes, err := hex.DecodeString(text)
	if err != nil {
		t.Fatal(err)
	}
	return string(bytes)
}

// P12.2: each chain from 0 to 15 is fifteen Hashes, one by one, and each place between is one of them.
func TestEachChainWhole(t *testing.T) {
	for i := range 67 {
		x := "the text of the chain"
		for j := range 15 {
			x = dom.Hash("chain", string([]byte{byte(i)}), string([]byte{byte(j)}), x)
			wantWalk(t, i, 0, j+1, "the text of the chain", x)
		}
		if len(x) != 32 {
			t.Fatalf("at the end of the chain %d stand %d bytes", i, len(x))
		}
		wantWalk(t, i, 0, 15, "the text of the chain", x)
	}
}

// P12.2: places from -1 to 16, each pair, on each chain and on those beside them.
func TestEachPairOfPlaces(t *testing.T) {
	for i := -1; i <= 67; i++ {
		for from := -1; from <= 16; from++ {
			all := map[int]string{}
			if i >= 0 && i <= 66 && from >= 0 && from <= 15 {
				all = stands(i, from, "x")
			}
			for to := -1; to <= 16; to++ {
				wantWalk(t, i, from, to, "x", all[to])
			}
		}
	}
}

// P12.2: texts of any size, none among them; at the place itself they stand as they are.
func TestTexts(t *testing.T) {
	for _, x := range texts() {
		for _, i := range []int{0, 1, 33, 65, 66} {
			for j := range 16 {
				wantWalk(t, i, j, j, x, x)
			}
			for _, from := range []int{0, 7, 14} {
				for to, want := range stands(i, from, x) {
					wantWalk(t, i, from, to, x, want)
				}
			}
		}
	}
}

// P12.2: chains that there are not, far ones too, wherever it goes from and to.
func TestNoSuchChain(t *testing.T) {
	for _, i := range append(far(), -2, -1, 67, 68) {
		for _, places := range [][2]int{{0, 0}, {0, 1}, {0, 15}, {3, 3}, {15, 15}, {14, 15}, {3, 2}, {-1, 16}} {
			for _, x := range []string{"", "x", rising()} {
				wantWalk(t, i, places[0], places[1], x, "")
			}
		}
	}
}

// P12.2: places that there are not, far ones too, as the first one, as the last one, and as both.
func TestNoSuchPlace(t *testing.T) {
	for _, i := range []int{0, 5, 66} {
		for _, place := range append(far(), -2, -1, 16, 17, 66, 67) {
			for j := range 16 {
				wantWalk(t, i, place, j, "x", "")
				wantWalk(t, i, j, place, "x", "")
			}
			wantWalk(t, i, place, place, "x", "")
			wantWalk(t, i, place, place+1, "x", "")
			wantWalk(t, i, -1, place, "x", "")
			wantWalk(t, i, place, 16, "x", "")
		}
	}
}

// P12.2: no chain goes down.
func TestFromAboveTo(t *testing.T) {
	for i := range 67 {
		for from := range 16 {
			for to := range from {
				for _, x := range []string{"", "x", rising()} {
					wantWalk(t, i, from, to, x, "")
				}
			}
		}
	}
}

// P12.3: a walk in two goes, at each place between, is the walk in one.
func TestInTwoGoes(t *testing.T) {
	for _, x := range []string{"", "x", rising(), "a text of more bytes than a digest has, which is 32"} {
		for i := range 67 {
			for from := range 16 {
				halfway := map[int]string{}
				for between := from; between <= 15; between++ {
					halfway[between] = chain.Walk(i, from, between, x)
				}
				for to := from; to <= 15; to++ {
					for between := from; between <= to; between++ {
						wantWalk(t, i, between, to, halfway[between], halfway[to])
					}
				}
			}
		}
	}
}

// P12.3: as many goes as there are steps are one walk too, and none of them stands where another one does.
func TestInManyGoes(t *testing.T) {
	met := map[string]bool{}
	for i := range 67 {
		x := rising()
		for j := range 15 {
			x = chain.Walk(i, j, j+1, x)
			if met[x] || len(x) != 32 {
				t.Fatalf("at %d on the chain %d stands %x", j+1, i, x)
			}
			met[x] = true
		}
		wantWalk(t, i, 0, 15, rising(), x)
	}
}

// P12.2: the chain and the place count, each of them: no step is another one's, of the same text.
func TestNoTwoStepsAreAlike(t *testing.T) {
	met := map[string]bool{}
	for _, x := range []string{"", "x", rising()} {
		for i := range 67 {
			for j := range 15 {
				met[chain.Walk(i, j, j+1, x)] = true
			}
		}
	}
	if len(met) != 3*67*15 {
		t.Errorf("%d texts come, not %d", len(met), 3*67*15)
	}
}

// P12.3: who knows what stands at one digest's digits comes to no other digest's, as one of them stands ahead.
func TestNoWalkToAnotherDigest(t *testing.T) {
	all := digests()[:20]
	for _, a := range all {
		for _, b := range all {
			if a == b {
				continue
			}
			ahead := false
			from, to := chain.Digits(a), chain.Digits(b)
			for i := range from {
				ahead = ahead || chain.Walk(i, from[i], to[i], "x") == ""
			}
			if !ahead {
				t.Fatalf("from the digits of %x one comes to all of %x", a, b)
			}
		}
	}
}

// R6: what was asked ahead, of other chains, places and texts, or in vain, changes no answer.
func TestWalksAnswerTheSame(t *testing.T) {
	want := stands(5, 3, "x")
	for range 20 {
		wantWalk(t, 5, 3, 2, "x", "")
		for to := 3; to <= 15; to++ {
			wantWalk(t, 5, 3, to, "x", want[to])
			wantWalk(t, 66, 0, to, "y", stands(66, 0, "y")[to])
			wantWalk(t, 67, 0, to, "y", "")
		}
	}
}
