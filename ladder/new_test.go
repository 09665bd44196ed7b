package ladder_test

import (
	"encoding/hex"
	"math"
	"math/big"
	"math/rand"
	"testing"

	"sextant/api"
	"sextant/ladder"
)

// P14.1: the chapter's example.
func TestKeyExamples(t *testing.T) {
	l := made(t, setting{rising(), 100, 10, 4})
	for round, want := range map[uint64]int{99: -1, 100: 0, 109: 0, 110: 1, 125: 2, 139: 3, 140: -1} {
		key, is := l.Key(round)
		if is != (want >= 0) || is && key != uint64(want) || !is && key != 0 {
			t.Errorf("Key(%d) is %d, %v, not %d", round, key, is, want)
		}
	}
}

// P14.1: Root, Key and Part of settings at the edges, by the reference.
func TestNew(t *testing.T) {
	for _, s := range settings() {
		l := made(t, s)
		if l.Root() != s.root() {
			t.Errorf("the root of %v is %x, not %x", s, l.Root(), s.root())
		}
		for _, weight := range []uint64{0, 1, 5, 1 << 32, math.MaxUint64} {
			if got := l.Part(weight); got != s.part(weight) {
				t.Errorf("Part(%d) of %v is %v, not %v", weight, s, got, s.part(weight))
			}
		}
		for _, round := range s.ends() {
			wantKey(t, l, s, round)
		}
	}
}

// P14.1: the root of each number of keys.
func TestRootOfEachCount(t *testing.T) {
	for keys := 1; keys <= 64; keys++ {
		s := setting{rising(), uint64(keys), 2, keys}
		l := made(t, s)
		if got := l.Root(); got != s.root() {
			t.Fatalf("the root of %d keys is %x, not %x", keys, got, s.root())
		}
		if got := l.Part(9); got != s.part(9) {
			t.Fatalf("Part of %d keys is %v", keys, got)
		}
		for round := range uint64(200) {
			wantKey(t, l, s, round)
		}
	}
}

// P14.1: the roots of some seeds, written out.
func TestRootWrittenOut(t *testing.T) {
	for _, row := range []struct {
		seed string
		keys int
		want string
	}{
		{noughts, 1, "a9f75a25d45cba912d8fa3070392fc7a8ea7d7848dc8c46431527c1e2e3262c5"},
		{noughts, 3, "9e930ed28bcdc826e1b160cda999d5ef49688ca9e25e14694204accbb864f41c"},
		{rising(), 4, "4275f8aca4f572a432b28def18a28c4c6d3d979d6aab16478bc613ae782b75e5"},
		{rising(), 5, "d187e77b5491c4a6722de56b4f5ca132cb9d9b7c4b71595db8d6088120db5952"},
		{highs, 64, "7aca88c71e13a3598ffd6b6f19bb3c405d2b6bf80f40b121d3396dee7d78dab3"},
	} {
		l := made(t, setting{row.seed, 100, 10, row.keys})
		if got := hex.EncodeToString([]byte(l.Root())); got != row.want {
			t.Errorf("the root of %d keys is %s, not %s", row.keys, got, row.want)
		}
	}
}

// P14.1: the root hangs on the seed and on how many keys there are, on neither the first round nor the life.
func TestOnWhatTheRootHangs(t *testing.T) {
	root := made(t, setting{rising(), 100, 10, 4}).Root()
	for _, same := range []setting{{rising(), 0, 10, 4}, {rising(), 100, 1, 4}, {rising(), 1 << 60, 1 << 60, 4}} {
		if made(t, same).Root() != root {
			t.Errorf("%v has another root", same)
		}
	}
	for i := range 32 {
		if made(t, setting{flipped(rising(), i), 100, 10, 4}).Root() == root {
			t.Errorf("with another byte %d of the seed the root is the same", i)
		}
	}
	for keys := 1; keys < 9; keys++ {
		if (made(t, setting{rising(), 100, 10, keys}).Root() == root) != (keys == 4) {
			t.Errorf("the root of %d keys is the same, or another one", keys)
		}
	}
}

// wrongCounts are numbers of keys that may not be, some of which would, if they were cut, or had no sign.
func wrongCounts() []int {
	return []int{0, -1, -2, -63, -64, -65, 65, 66, 128, 256 + 1, 1<<16 + 1, math.MaxInt32, math.MinInt32, math.MaxInt, math.MinInt, math.MinInt + 1, math.MinInt + 64}
}

// P14.1: seeds, lives and counts that may not be.
func TestNewOfWrongArguments(t *testing.T) {
	for _, seed := range noDigests() {
		wantNone(t, setting{seed, 100, 10, 4}, api.ErrArg)
	}
	for _, first := range []uint64{0, 1, 100, math.MaxUint64} {
		for keys := 1; keys <= 64; keys++ {
			wantNone(t, setting{rising(), first, 0, keys}, api.ErrArg)
		}
	}
	for _, keys := range wrongCounts() {
		for _, life := range []uint64{1, 10, 1 << 32} {
			wantNone(t, setting{rising(), 100, life, keys}, api.ErrArg)
		}
	}
}

// P14.1, R2: what may not be is told ahead of what runs over.
func TestNewOfBothWrong(t *testing.T) {
	over := setting{rising(), math.MaxUint64, math.MaxUint64, 64}
	wantNone(t, over, api.ErrOver)
	for _, seed := range noDigests() {
		s := over
		s.seed = seed
		wantNone(t, s, api.ErrArg)
	}
	for _, keys := range wrongCounts() {
		wantNone(t, setting{rising(), math.MaxUint64, math.MaxUint64, keys}, api.ErrArg)
		wantNone(t, setting{rising(), 0, math.MaxUint64, keys}, api.ErrArg)
		wantNone(t, setting{"", math.MaxUint64, 0, keys}, api.ErrArg)
	}
	wantNone(t, setting{rising(), math.MaxUint64, 0, 64}, api.ErrArg)
	wantNone(t, setting{"", math.MaxUint64, 0, 4}, api.ErrArg)
}

// isOver is asked of whole numbers without bounds.
func isOver(s setting) bool {
	sum := new(big.Int).Mul(whole(s.life), big.NewInt(int64(s.keys)))
	sum.Add(sum, whole(s.first))
	return sum.Cmp(whole(math.MaxUint64)) > 0
}

// P14.1: of each number of keys the greatest first round that may be, with some lives, and one more.
func TestNewAtTheBound(t *testing.T) {
	for keys := 1; keys <= 64; keys++ {
		most := uint64(math.MaxUint64) / uint64(keys)
		for _, life := range []uint64{1, 1000, most - 1, most} {
			first := math.MaxUint64 - life*uint64(keys)
			if keys < 8 { // of more it takes long
				l := made(t, setting{rising(), first, life, keys})
				wantKey(t, l, setting{rising(), first, life, keys}, math.MaxUint64-1)
			}
			if first < math.MaxUint64 {
				wantNone(t, setting{rising(), first + 1, life, keys}, api.ErrOver)
			}
			wantNone(t, setting{rising(), math.MaxUint64, life, keys}, api.ErrOver)
		}
		last := setting{rising(), math.MaxUint64 - most*uint64(keys), most, keys}
		l := made(t, last)
		for _, round := range last.ends() {
			wantKey(t, l, last, round)
		}
	}
}

// P14.1: lives of which the keys' product, cut to 64 bits, is little, or nothing.
func TestNewOfGreatProducts(t *testing.T) {
	for keys := 2; keys <= 64; keys++ {
		most := uint64(math.MaxUint64) / uint64(keys)
		for _, life := range []uint64{most + 1, most + 2, 1 << 63, 1<<63 + 1, math.MaxUint64 - 1, math.MaxUint64} {
			for _, first := range []uint64{0, 1, 100, 1 << 63, math.MaxUint64} {
				wantNone(t, setting{rising(), first, life, keys}, api.ErrOver)
			}
		}
	}
	for shift := 58; shift < 64; shift++ {
		wantNone(t, setting{rising(), 0, 1 << shift, 64}, api.ErrOver)
	}
}

// P14.1: drawn numbers, of all sizes.
func TestNewOfDrawnNumbers(t *testing.T) {
	draw := rand.New(rand.NewSource(14))
	size := func() uint64 { return draw.Uint64() >> draw.Intn(64) }
	taken := 0
	for range 3000 {
		s := setting{rising(), size(), size(), 1 + draw.Intn(64)}
		switch {
		case s.life == 0:
			wantNone(t, s, api.ErrArg)
		case isOver(s):
			wantNone(t, s, api.ErrOver)
		case taken < 40:
			taken++
			l := made(t, s)
			for _, round := range append(s.ends(), size(), size()) {
				wantKey(t, l, s, round)
			}
		}
	}
}

// P14.3, R1, R3: a ladder that is none answers ErrNil, 0, false, nothing; likewise one that New did not make.
func TestNone(t *testing.T) {
	for _, l := range []*ladder.Ladder{nil, {}} {
		if root := l.Root(); root != "" {
			t.Errorf("Root is %x", root)
		}
		for _, round := range []uint64{0, 1, 100, math.MaxUint64} {
			if key, is := l.Key(round); key != 0 || is {
				t.Errorf("Key(%d) is %d, %v", round, key, is)
			}
			for _, digest := range []string{noughts, rising(), "", noughts[1:]} {
				wantNoSign(t, l, round, digest, api.ErrNil)
			}
		}
		for _, weight := range []uint64{0, 1, math.MaxUint64} {
			if part := l.Part(weight); part != (api.Part{}) {
				t.Errorf("Part(%d) is %v", weight, part)
			}
		}
	}
}
