package ladder_test

import (
	"math"
	"math/rand"
	"slices"
	"strings"
	"testing"

	"sextant/api"
	"sextant/ladder"
)

// P14.3: the chapter's example.
func TestVerifyExample(t *testing.T) {
	l := made(t, setting{rising(), 100, 10, 4})
	sig := signed(t, l, 125, noughts)
	for round, want := range map[uint64]api.Errno{120: api.OK, 129: api.OK, 130: api.ErrSig, 140: api.ErrRound, 119: api.ErrSig, 99: api.ErrRound} {
		if got := ladder.Verify(l.Part(1), round, noughts, sig); got != want {
			t.Errorf("Verify for %d is %v, not %v", round, got, want)
		}
	}
}

// P14.4: what is signed for a round is verified for just those of the same key, of which each one has a ladder.
func TestVerifyOfEachRound(t *testing.T) {
	for _, s := range []setting{{noughts, 0, 1, 1}, {noughts, 0, 5, 3}, {rising(), 3, 2, 4}, {highs, 1, 1, 9}, {wide, 2, 3, 5}} {
		l := made(t, s)
		last := s.first + s.life*uint64(s.keys)
		for round := s.first; round < last; round++ {
			key, is := l.Key(round)
			if !is {
				t.Fatalf("%v has no key of %d", s, round)
			}
			sig := signed(t, l, round, rising())
			for other := range last + 3 {
				want := api.ErrSig
				if k, there := l.Key(other); !there {
					want = api.ErrRound
				} else if k == key {
					want = api.OK
				}
				wantVerify(t, call{l.Part(1), other, rising(), sig}, want)
			}
		}
	}
}

// P14.3: at the edges of each key's rounds, of each setting.
func TestVerify(t *testing.T) {
	for _, s := range settings() {
		l := made(t, s)
		for i, round := range s.ends() {
			digest := digests()[i%len(digests())]
			if _, is := s.keyOf(round); is {
				wantVerify(t, call{l.Part(7), round, digest, signed(t, l, round, digest)}, api.OK)
			} else {
				wantVerify(t, call{l.Part(7), round, digest, signed(t, l, s.first, digest)}, api.ErrRound)
			}
		}
	}
}

// P14.3: drawn ladders, rounds and digests.
func TestVerifyOfDrawnDigests(t *testing.T) {
	draw := rand.New(rand.NewSource(16))
	for range 10 {
		s := setting{drawn(draw, 32), draw.Uint64() >> 1, draw.Uint64()>>8 + 1, 1 + draw.Intn(10)}
		l := made(t, s)
		for range 10 {
			round, digest := s.first+draw.Uint64()%(s.life*uint64(s.keys)), drawn(draw, 32)
			wantVerify(t, call{l.Part(draw.Uint64()), round, digest, signed(t, l, round, digest)}, api.OK)
		}
	}
}

// P14.3: the weight counts for nothing.
func TestVerifyOfWeights(t *testing.T) {
	c := setting{rising(), 100, 10, 4}.wellCall(125, noughts)
	for _, weight := range []uint64{0, 1, 1 << 32, math.MaxUint64} {
		wantVerify(t, c.with(func(c *call) { c.part.Weight = weight }), api.OK)
	}
}

// farKeys are counts that may not be, some of which would, if they were cut.
func farKeys() []uint64 {
	return []uint64{0, 65, 66, 128, 256 + 4, 1<<16 + 4, 1 << 32, 1<<32 + 4, 1 << 63, 1<<63 + 4, math.MaxUint64, math.MaxUint64 - 3}
}

// P14.3: digests, roots, lives and counts that may not be.
func TestVerifyOfWrongArguments(t *testing.T) {
	for _, s := range []setting{{rising(), 100, 10, 4}, {noughts, 100, 30, 1}} {
		c := s.wellCall(125, noughts)
		wantVerify(t, c, api.OK)
		for _, text := range noDigests() {
			wantVerify(t, c.with(func(c *call) { c.digest = text }), api.ErrArg)
			wantVerify(t, c.with(func(c *call) { c.part.Root = text }), api.ErrArg)
		}
		wantVerify(t, c.with(func(c *call) { c.part.Root = c.part.Root[:31] }), api.ErrArg)
		wantVerify(t, c.with(func(c *call) { c.part.Root += "\x00" }), api.ErrArg)
		wantVerify(t, c.with(func(c *call) { c.part.Life = 0 }), api.ErrArg)
		for _, keys := range farKeys() {
			wantVerify(t, c.with(func(c *call) { c.part.Keys = keys }), api.ErrArg)
		}
	}
}

// wrongs make a call's signature, or its round, one that may not be.
func wrongs() []func(c *call) {
	return []func(c *call){
		func(c *call) { c.round = 99 },
		func(c *call) { c.round = 140 },
		func(c *call) { c.round = 130 },
		func(c *call) { c.sig = api.Sig{} },
		func(c *call) { c.sig.Index++ },
		func(c *call) { c.sig.Wots = nil },
		func(c *call) { c.sig.Path = c.sig.Path[1:] },
	}
}

// P14.3, R2: what may not be is told ahead of what has no round, and that ahead of what is no signature.
func TestWhichErrorComesFirst(t *testing.T) {
	c := setting{rising(), 100, 10, 4}.wellCall(125, noughts)
	for _, wrong := range wrongs() {
		bad := c.with(wrong)
		for _, text := range fewNoDigests() {
			wantVerify(t, bad.with(func(c *call) { c.digest = text }), api.ErrArg)
			wantVerify(t, bad.with(func(c *call) { c.part.Root = text }), api.ErrArg)
		}
		wantVerify(t, bad.with(func(c *call) { c.part.Life = 0 }), api.ErrArg)
		for _, keys := range farKeys() {
			wantVerify(t, bad.with(func(c *call) { c.part.Keys = keys }), api.ErrArg)
		}
		for _, round := range []uint64{0, 99, 140, math.MaxUint64} {
			wantVerify(t, bad.with(func(c *call) { c.round = round }), api.ErrRound)
			wantVerify(t, bad.with(func(c *call) { c.round, c.part.Root = round, noughts }), api.ErrRound)
			wantVerify(t, bad.with(func(c *call) { c.round, c.digest = round, highs }), api.ErrRound)
		}
	}
	wantVerify(t, call{}, api.ErrArg)
	wantVerify(t, call{part: api.Part{Root: noughts, Life: 1, Keys: 1}, digest: noughts, round: 1}, api.ErrRound)
	wantVerify(t, call{part: api.Part{Root: noughts, Life: 1, Keys: 1}, digest: noughts}, api.ErrSig)
}

// P14.3: participants whose rounds go on above all numbers: nothing runs over.
func TestVerifyOfRoundsAboveAllNumbers(t *testing.T) {
	s := setting{rising(), 0, 1, 4}
	for _, row := range []struct {
		first, life, round uint64
		key                int // below 0: there is none
	}{
		{math.MaxUint64, 1, math.MaxUint64, 0},
		{math.MaxUint64, 1, 0, -1},
		{math.MaxUint64, 1, 2, -1},
		{math.MaxUint64, math.MaxUint64, math.MaxUint64, 0},
		{math.MaxUint64, math.MaxUint64, math.MaxUint64 - 1, -1},
		{math.MaxUint64, math.MaxUint64, 0, -1},
		{math.MaxUint64 - 1, 1, math.MaxUint64, 1},
		{math.MaxUint64 - 1, 1, 0, -1},
		{math.MaxUint64 - 1, 1, 1, -1},
		{math.MaxUint64 - 2, 1, math.MaxUint64, 2},
		{math.MaxUint64 - 9, 5, math.MaxUint64 - 5, 0},
		{math.MaxUint64 - 9, 5, math.MaxUint64 - 4, 1},
		{math.MaxUint64 - 9, 5, math.MaxUint64, 1},
		{math.MaxUint64 - 9, 5, 0, -1},
		{math.MaxUint64 - 9, 5, 9, -1},
		{0, 1 << 62, math.MaxUint64, 3},
		{1, 1 << 62, math.MaxUint64, 3},
		{0, 1 << 63, math.MaxUint64, 1},
		{0, 1 << 63, 1<<63 - 1, 0},
		{0, math.MaxUint64, math.MaxUint64, 1},
		{0, math.MaxUint64, math.MaxUint64 - 1, 0},
		{1 << 63, 1 << 61, math.MaxUint64, 3},
		{1 << 63, 1 << 61, 1 << 61, -1},
		{1<<63 - 1, 1 << 61, math.MaxUint64, -1},
		{5, math.MaxUint64, 4, -1},
		{5, math.MaxUint64, math.MaxUint64, 0},
	} {
		for key := range uint64(4) {
			want := api.ErrSig
			if row.key < 0 {
				want = api.ErrRound
			} else if key == uint64(row.key) {
				want = api.OK
			}
			part := s.part(1)
			part.First, part.Life = row.first, row.life
			wantVerify(t, call{part, row.round, rising(), s.sign(key, rising())}, want)
		}
	}
}

// P14.3: an Index that is another one, some of which would be the key, if they were cut.
func TestVerifyOfOtherIndexes(t *testing.T) {
	s := setting{rising(), 100, 10, 4}
	for key := range uint64(4) {
		c := s.wellCall(100+10*key, noughts)
		for _, index := range []uint64{0, 1, 2, 3, 4, 5, 63, 64, 256, 1<<16 + key, 1<<32 + key, 1<<63 + key, math.MaxUint64, math.MaxUint64 - 3} {
			if index != key {
				wantVerify(t, c.with(func(c *call) { c.sig.Index = index }), api.ErrSig)
			}
		}
	}
}

// P14.3: the signature of one key, as if it were that of another one: neither the texts nor the path may be those.
func TestVerifyOfOtherKeys(t *testing.T) {
	s := setting{rising(), 100, 10, 5}
	for key := range uint64(5) {
		c := s.wellCall(105+10*key, noughts)
		for other := range uint64(5) {
			if other == key {
				continue
			}
			sig := s.sign(other, noughts)
			wantVerify(t, c.with(func(c *call) { c.sig.Wots = sig.Wots }), api.ErrSig)
			wantVerify(t, c.with(func(c *call) { c.sig.Path = sig.Path }), api.ErrSig)
			wantVerify(t, c.with(func(c *call) { c.sig.Wots, c.sig.Path = sig.Wots, sig.Path }), api.ErrSig)
			wantVerify(t, c.with(func(c *call) { c.sig = sig }), api.ErrSig)
		}
	}
}

// P14.3: lists of texts and of digests that are too short or too long, or have a text that may not be.
func TestVerifyOfWrongLists(t *testing.T) {
	for _, s := range []setting{{rising(), 100, 10, 4}, {noughts, 100, 30, 1}, {highs, 100, 5, 17}} {
		c := s.wellCall(125, rising())
		wantVerify(t, c, api.OK)
		for size := range 67 {
			wantVerify(t, c.with(func(c *call) { c.sig.Wots = c.sig.Wots[:size] }), api.ErrSig)
		}
		wantVerify(t, c.with(func(c *call) { c.sig.Wots = append(c.sig.Wots, noughts) }), api.ErrSig)
		wantVerify(t, c.with(func(c *call) { c.sig.Wots = slices.Repeat(c.sig.Wots, 2) }), api.ErrSig)
		for size := range len(c.sig.Path) {
			wantVerify(t, c.with(func(c *call) { c.sig.Path = c.sig.Path[:size] }), api.ErrSig)
			wantVerify(t, c.with(func(c *call) { c.sig.Path = c.sig.Path[size+1:] }), api.ErrSig)
		}
		wantVerify(t, c.with(func(c *call) { c.sig.Path = append(c.sig.Path, noughts) }), api.ErrSig)
		wantVerify(t, c.with(func(c *call) { c.sig.Path = append([]string{noughts}, c.sig.Path...) }), api.ErrSig)
		for _, text := range fewNoDigests() {
			for i := range c.sig.Wots {
				wantVerify(t, c.with(func(c *call) { c.sig.Wots[i] = text }), api.ErrSig)
			}
			for i := range c.sig.Path {
				wantVerify(t, c.with(func(c *call) { c.sig.Path[i] = text }), api.ErrSig)
			}
			wantVerify(t, c.with(func(c *call) { c.sig.Path = append(c.sig.Path, text) }), api.ErrSig)
		}
	}
}

// P14.3: each text, each digest of the path, the root and the digest count, each of their bytes.
func TestVerifyOfOtherBytes(t *testing.T) {
	c := setting{rising(), 100, 10, 4}.wellCall(125, rising())
	for i := range 67 {
		wantVerify(t, c.with(func(c *call) { c.sig.Wots[i] = flipped(c.sig.Wots[i], i%32) }), api.ErrSig)
	}
	for at := range 32 {
		for i := range c.sig.Path {
			wantVerify(t, c.with(func(c *call) { c.sig.Path[i] = flipped(c.sig.Path[i], at) }), api.ErrSig)
		}
		wantVerify(t, c.with(func(c *call) { c.part.Root = flipped(c.part.Root, at) }), api.ErrSig)
		wantVerify(t, c.with(func(c *call) { c.digest = flipped(c.digest, at) }), api.ErrSig)
	}
	wantVerify(t, c.with(func(c *call) { slices.Reverse(c.sig.Path) }), api.ErrSig)
	wantVerify(t, c.with(func(c *call) { slices.Reverse(c.sig.Wots) }), api.ErrSig)
}

// P14.3: the signature of another ladder, which has another seed, or another number of keys.
func TestVerifyOfOtherLadders(t *testing.T) {
	s := setting{rising(), 100, 10, 4}
	c := s.wellCall(125, noughts)
	for _, other := range []setting{{noughts, 100, 10, 4}, {highs, 100, 10, 4}, {rising(), 100, 10, 3}, {rising(), 100, 10, 5}, {rising(), 100, 10, 64}} {
		wantVerify(t, c.with(func(c *call) { c.sig = other.sign(2, noughts) }), api.ErrSig)
		wantVerify(t, c.with(func(c *call) { c.part.Root = other.root() }), api.ErrSig)
	}
}

// P14.3: a participant's Keys are those of which the path is asked: of as many as have the same depth, the root is the same.
func TestVerifyOfOtherCounts(t *testing.T) {
	for _, keys := range []int{1, 2, 3, 4, 5, 8, 9, 33} {
		s := setting{rising(), 100, 10, keys}
		c := s.wellCall(105, noughts)
		for other := uint64(1); other <= 64; other++ {
			want := api.ErrSig
			if depthOf(keys) == depthOf(int(other)) {
				want = api.OK
			}
			wantVerify(t, c.with(func(c *call) { c.part.Keys = other }), want)
		}
	}
}

// P14.3: a rung that has not the key's number in it leads to no root, though its public text is that of the key's place.
func TestVerifyAsksForTheRungsNumber(t *testing.T) {
	seed := rising()
	public := rungsOf(seed, 3)[2][8:]
	path := []string{hash("leaf", "x"), hash("node", hash("leaf", "y"), hash("leaf", "z"))}
	sig := setting{seed, 0, 1, 3}.sign(2, noughts)
	sig.Path = path
	for _, row := range []struct {
		rung string
		want api.Errno
	}{
		{eight(2) + public, api.OK},
		{eight(1) + public, api.ErrSig},
		{public + eight(2), api.ErrSig},
		{public, api.ErrSig},
		{eight(2)[7:] + public, api.ErrSig},
		{strings.Repeat("\x00", 8) + public, api.ErrSig},
	} {
		part := api.Part{Root: shownRoot(3, 2, row.rung, path), Life: 1, Keys: 3}
		wantVerify(t, call{part, 2, noughts, sig}, row.want)
	}
}

// P14.3: where nothing can be recovered the answer is ErrSig, though a rung without a public text, or with one of noughts, leads to the root.
func TestVerifyOfRungsWithoutPublicText(t *testing.T) {
	path := []string{hash("leaf", "x"), hash("node", hash("leaf", "y"), hash("leaf", "z"))}
	well := setting{rising(), 0, 1, 3}.sign(2, noughts).Wots
	for _, texts := range [][]string{nil, well[:66], append(slices.Clone(well), noughts), append(slices.Clone(well[:66]), "x")} {
		for _, rung := range []string{eight(2), eight(2) + noughts, eight(2) + hash("public"), eight(2) + hash("public", texts...), ""} {
			part := api.Part{Root: shownRoot(3, 2, rung, path), Life: 1, Keys: 3}
			wantVerify(t, call{part, 2, noughts, api.Sig{Index: 2, Wots: texts, Path: path}}, api.ErrSig)
		}
	}
}

// P14.3: calls of which some things are changed at once, held against the reference.
func TestVerifyOfDrawnCalls(t *testing.T) {
	draw := rand.New(rand.NewSource(17))
	s := setting{rising(), 100, 10, 5}
	number := func() uint64 { return []uint64{0, 1, 5, 10, 64, 99, 100, 105, 120, 149, math.MaxUint64}[draw.Intn(11)] }
	list := func(list []string) {
		if len(list) > 0 {
			list[draw.Intn(len(list))] = drawn(draw, 32-draw.Intn(20)/19)
		}
	}
	changes := []func(c *call){
		func(c *call) { c.round = number() },
		func(c *call) { c.round += uint64(draw.Intn(10)) },
		func(c *call) { c.part.First = number() },
		func(c *call) { c.part.Life = number() },
		func(c *call) { c.part.Keys = number() },
		func(c *call) { c.part.Keys = uint64(5 + draw.Intn(5)) },
		func(c *call) { c.part.Root = drawn(draw, 32-draw.Intn(2)) },
		func(c *call) { c.digest = drawn(draw, 32-draw.Intn(2)) },
		func(c *call) { c.sig.Index = number() },
		func(c *call) { list(c.sig.Wots) },
		func(c *call) { list(c.sig.Path) },
		func(c *call) { c.sig.Path = c.sig.Path[:draw.Intn(len(c.sig.Path)+1)] },
		func(c *call) { c.part.Weight = number() },
	}
	told := map[api.Errno]int{}
	for range 1500 {
		c := s.wellCall(100+uint64(draw.Intn(50)), hash("digest")).with(func(c *call) {
			for range 1 + draw.Intn(2) {
				changes[draw.Intn(len(changes))](c)
			}
		})
		want := verified(c)
		told[want]++
		wantVerify(t, c, want)
	}
	for _, e := range []api.Errno{api.OK, api.ErrArg, api.ErrRound, api.ErrSig} {
		if told[e] < 50 {
			t.Errorf("%v was drawn only %d times", e, told[e])
		}
	}
}

// R5: neither the lists that are handed in nor what stands behind their ends are changed, whatever is answered.
func TestSignatureStaysAsItWas(t *testing.T) {
	c := setting{rising(), 100, 10, 4}.wellCall(125, rising())
	whole := api.Sig{Index: 2, Wots: append(slices.Clone(c.sig.Wots), "x", "y"), Path: append(slices.Clone(c.sig.Path), "x", "y")}
	for texts := 66; texts <= 68; texts++ {
		for path := range 4 {
			for _, round := range []uint64{99, 125, 130} {
				handed := api.Sig{Index: 2, Wots: slices.Clone(whole.Wots), Path: slices.Clone(whole.Path)}
				ladder.Verify(c.part, round, c.digest, api.Sig{Index: 2, Wots: handed.Wots[:texts], Path: handed.Path[:path]})
				wantSame(t, handed, whole)
			}
		}
	}
}

// R6: the same call answers the same, whatever was refused between.
func TestVerifyAnswersTheSame(t *testing.T) {
	s := setting{rising(), 100, 10, 4}
	l := made(t, s)
	for _, round := range []uint64{125, 100, 139, 125} {
		c := call{l.Part(2), round, wide, signed(t, l, round, wide)}
		for _, wrong := range wrongs() {
			if bad := c.with(wrong); verified(bad) != api.OK {
				wantVerify(t, bad, verified(bad))
			}
			wantVerify(t, c, api.OK)
		}
	}
}
