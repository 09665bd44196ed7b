package ladder_test

import (
	"encoding/hex"
	"math"
	"math/rand"
	"slices"
	"testing"

	"sextant/api"
	"sextant/dom"
	"sextant/wots"
)

// P14.2: the chapter's examples.
func TestSignExamples(t *testing.T) {
	l := made(t, setting{rising(), 100, 10, 4})
	wantNoSign(t, l, 140, noughts, api.ErrRound)
	if sig := signed(t, l, 125, noughts); sig.Index != 2 || len(sig.Wots) != 67 || len(sig.Path) != 2 {
		t.Errorf("Sign(125) answers %d, %d texts, %d digests", sig.Index, len(sig.Wots), len(sig.Path))
	}
}

// P14.2: at the edges of each key's rounds, of each setting, some digests, by the reference.
func TestSign(t *testing.T) {
	for _, s := range settings() {
		l := made(t, s)
		all := digests()
		for i, round := range s.ends() {
			if _, is := s.keyOf(round); is {
				wantSign(t, l, s, round, all[i%len(all)])
			} else {
				wantNoSign(t, l, round, all[i%len(all)], api.ErrRound)
			}
		}
	}
}

// P14.2: each key of each number of keys.
func TestSignOfEachKey(t *testing.T) {
	for _, keys := range []int{1, 2, 3, 4, 5, 7, 8, 9, 16, 17, 33, 64} {
		s := setting{rising(), 10, 3, keys}
		l := made(t, s)
		for k := range uint64(keys) {
			wantSign(t, l, s, 10+3*k, rising())
			wantSign(t, l, s, 12+3*k, wide)
		}
		wantNoSign(t, l, 9, rising(), api.ErrRound)
		wantNoSign(t, l, 10+3*uint64(keys), rising(), api.ErrRound)
	}
}

// P14.2: drawn digests, seeds and rounds.
func TestSignOfDrawnDigests(t *testing.T) {
	draw := rand.New(rand.NewSource(15))
	for range 10 {
		s := setting{drawn(draw, 32), draw.Uint64() >> 1, draw.Uint64()>>8 + 1, 1 + draw.Intn(10)}
		l := made(t, s)
		for range 10 {
			wantSign(t, l, s, s.first+draw.Uint64()%(s.life*uint64(s.keys)), drawn(draw, 32))
		}
	}
}

// P14.2: paths that are written out, and texts as the layer below answers them.
func TestSignWrittenOut(t *testing.T) {
	for _, row := range []struct {
		keys  int
		index uint64
		want  []string
	}{
		{1, 0, nil},
		{4, 2, []string{
			"b3fef18b49ae08af2392faf8b6a6061897d6642e246c14d0b19e44c8755217dd",
			"9d8ab0a7f2d244beba6fcef42a857d5906b84c209c93203b9cef5cd8fb135937",
		}},
		{5, 4, []string{
			"b3fef18b49ae08af2392faf8b6a6061897d6642e246c14d0b19e44c8755217dd",
			"ecf7fb08f9ea1d33788659ee43f9fa1b5b20411f94da6b7262cce7dfff98014e",
			"c912d502dda1e997431bb3df561da64145593851be1cee8cfcd031b525d86b5d",
		}},
	} {
		sig := signed(t, made(t, setting{rising(), 100, 10, row.keys}), 105+10*row.index, noughts)
		var path []string
		for _, digest := range sig.Path {
			path = append(path, hex.EncodeToString([]byte(digest)))
		}
		if sig.Index != row.index || !slices.Equal(path, row.want) {
			t.Errorf("of %d keys the path of %d is %v, not %v", row.keys, sig.Index, path, row.want)
		}
		if want, _ := wots.Sign(rising(), row.index, noughts); !slices.Equal(sig.Wots, want) {
			t.Errorf("of %d keys the texts of %d are %x", row.keys, row.index, sig.Wots)
		}
	}
	if got := signed(t, made(t, setting{rising(), 100, 10, 4}), 125, noughts).Wots[66]; got != dom.Hash("secret", rising(), dom.Num(2), "\x42") {
		t.Errorf("the last text is %x, and no secret of the key 2", got)
	}
}

// P14.2, R2: digests that may not be, of rounds that have a key, and of those that have none.
func TestSignOfNoDigest(t *testing.T) {
	l := made(t, setting{rising(), 100, 10, 4})
	for _, digest := range noDigests() {
		for _, round := range []uint64{100, 109, 110, 139} {
			wantNoSign(t, l, round, digest, api.ErrArg)
		}
		for _, round := range []uint64{0, 99, 140, 1 << 32, math.MaxUint64} {
			wantNoSign(t, l, round, digest, api.ErrRound)
		}
	}
}

// P14.2: rounds that have no key, some of which would have one, if they were cut, or ran over.
func TestSignOfNoRound(t *testing.T) {
	l := made(t, setting{rising(), 100, 10, 4})
	for _, round := range []uint64{0, 98, 99, 140, 141, 1 << 32, 1<<32 + 100, 1<<63 + 100, 1 << 63, math.MaxUint64, math.MaxUint64 - 99} {
		for _, digest := range digests() {
			wantNoSign(t, l, round, digest, api.ErrRound)
		}
	}
}

// R5: an answer that is changed afterwards, behind its lists' ends too, changes neither another answer nor the ladder.
func TestSignaturesAreNew(t *testing.T) {
	s := setting{rising(), 100, 10, 5}
	l := made(t, s)
	early := signed(t, l, 125, noughts)
	for range 2 {
		sig := signed(t, l, 125, noughts)
		for _, list := range [][]string{sig.Wots, sig.Path} {
			all := list[:cap(list)]
			for i := range all {
				all[i] = "changed"
			}
		}
	}
	wantSame(t, early, s.sign(2, noughts))
	wantSign(t, l, s, 125, noughts)
	if l.Root() != s.root() {
		t.Errorf("the root became %x", l.Root())
	}
}

// R5: of one answer no place is the same as another one.
func TestListsOfOneAnswer(t *testing.T) {
	s := setting{rising(), 100, 10, 5}
	sig, want := signed(t, made(t, s), 125, noughts), s.sign(2, noughts)
	for i := range sig.Wots {
		sig.Wots[i] = "changed"
	}
	_ = append(sig.Wots, "changed")
	if !slices.Equal(sig.Path, want.Path) {
		t.Errorf("the path became %x", sig.Path)
	}
}

// R6: what was asked ahead, of other rounds and ladders and in vain, changes no answer: a key may be asked again and again.
func TestLaddersAnswerTheSame(t *testing.T) {
	s, other := setting{rising(), 100, 10, 4}, setting{highs, 7, 3, 5}
	l, m, again := made(t, s), made(t, other), made(t, s)
	for _, round := range []uint64{139, 100, 125, 125, 129, 100} {
		for _, digest := range digests() {
			wantNoSign(t, l, 140, digest, api.ErrRound)
			wantNoSign(t, l, 125, digest[1:], api.ErrArg)
			wantSign(t, m, other, 9, digest)
			wantSign(t, l, s, round, digest)
			wantKey(t, l, s, round)
		}
	}
	if l.Root() != s.root() || again.Root() != s.root() || l.Part(3) != s.part(3) || m.Part(3) != other.part(3) {
		t.Error("a ladder became another one")
	}
}
