package wots_test

import (
	"encoding/hex"
	"math/rand"
	"slices"
	"strings"
	"testing"

	"sextant/api"
	"sextant/wots"
)

// P13.2, P13.3: the chapter's examples.
func TestRecoverExamples(t *testing.T) {
	sig := signed(t, key{"s", 3}, rising())
	wantError(t, sig[:66], rising(), api.ErrSig)
	wantError(t, replaced(sig, 5, sig[5][1:]), rising(), api.ErrSig)
	wantError(t, sig, "", api.ErrArg)
	wantRecover(t, sig, rising(), wots.Public("s", 3))
}

// P13.2: of texts that no key made comes the hash of the ends of their walks.
func TestRecover(t *testing.T) {
	draw := rand.New(rand.NewSource(2))
	for _, digest := range digests() {
		for range 4 {
			sig := drawnSig(draw)
			wantRecover(t, sig, digest, hash("public", endsOf(sig, digest)...))
		}
		for _, text := range []string{noughts, highs, digest} {
			sig := slices.Repeat([]string{text}, 67)
			wantRecover(t, sig, digest, hash("public", endsOf(sig, digest)...))
		}
	}
}

// P13.2: what comes of texts of 32 times 0, 32 times 1, up to 32 times 66, written out.
func TestRecoverWrittenOut(t *testing.T) {
	var sig []string
	for i := range 67 {
		sig = append(sig, strings.Repeat(string([]byte{byte(i)}), 32))
	}
	got, e := wots.Recover(sig, rising())
	if hex.EncodeToString([]byte(got)) != "01b5bff7af687c6f34bf609e23b774fca5e1eb859a233ad91fc6d1f6e146e07d" || e != api.OK {
		t.Errorf("what comes is %x, %v", got, e)
	}
}

// P13.2: a text that stands at 15 already is an end itself: of 32 times ff the halves' texts all are.
func TestRecoverOfEnds(t *testing.T) {
	draw := rand.New(rand.NewSource(3))
	sig := drawnSig(draw)
	ends := slices.Clone(sig)
	for i := 64; i < 67; i++ {
		ends[i] = walk(i, 0, 15, sig[i])
	}
	wantRecover(t, sig, highs, hash("public", ends...))
}

// P13.2: digests that have not 32 bytes, with a signature that may be.
func TestRecoverOfNoDigest(t *testing.T) {
	for _, k := range fewKeys() {
		sig := signed(t, k, noughts)
		for _, digest := range noDigests() {
			wantError(t, sig, digest, api.ErrArg)
		}
		for _, digest := range []string{"", noughts[1:], noughts + "\x00", noughts + noughts} {
			wantError(t, sig, digest, api.ErrArg)
		}
	}
}

// P13.2, R4: signatures of none, of 0, of 66 and of 68 texts, and of others.
func TestRecoverOfOtherCounts(t *testing.T) {
	sig := signed(t, key{"seed", 7}, rising())
	many := slices.Repeat(sig, 3)
	wantError(t, nil, rising(), api.ErrSig)
	wantError(t, []string{}, rising(), api.ErrSig)
	wantError(t, append(slices.Clone(sig), rising()), rising(), api.ErrSig)
	wantError(t, sig[1:], rising(), api.ErrSig)
	wantError(t, many[66:134], rising(), api.ErrSig)
	wantError(t, slices.Repeat(sig, 256)[:256+67], rising(), api.ErrSig)
	wantError(t, slices.Repeat(sig, 1000)[:1<<16+67], rising(), api.ErrSig)
	for size := range 202 {
		if size != 67 {
			wantError(t, many[:size], rising(), api.ErrSig)
		}
	}
	wantRecover(t, many[:67], rising(), wots.Public("seed", 7))
}

// wrongTexts have not 32 bytes, 32 characters some of them.
func wrongTexts() []string {
	return []string{"", "x", noughts[1:], noughts + "\x00", noughts + noughts, strings.Repeat("ā", 32), strings.Repeat("a", 32+256), strings.Repeat("a", 1<<16+32)}
}

// P13.2: at each place in turn a text that has not 32 bytes.
func TestRecoverOfWrongTexts(t *testing.T) {
	for _, digest := range []string{noughts, highs, rising()} {
		sig := signed(t, key{"seed", 7}, digest)
		for i := range sig {
			for _, text := range wrongTexts() {
				wantError(t, replaced(sig, i, text), digest, api.ErrSig)
			}
			shorter, longer := sig[i][:31], sig[i]+"\x00"
			wantError(t, replaced(sig, i, shorter), digest, api.ErrSig)
			wantError(t, replaced(sig, i, longer), digest, api.ErrSig)
		}
	}
}

// P13.2: no bytes of one text are taken for another one's, and a sum of sizes that fits is not enough.
func TestRecoverOfTextsThatFitTogether(t *testing.T) {
	sig := signed(t, key{"seed", 7}, rising())
	for i := range 66 {
		moved := replaced(replaced(sig, i, sig[i]+sig[i+1][:1]), i+1, sig[i+1][1:])
		wantError(t, moved, rising(), api.ErrSig)
		wantError(t, replaced(replaced(sig, i, sig[i]+sig[i+1]), i+1, ""), rising(), api.ErrSig)
	}
	wantError(t, []string{strings.Join(sig, "")}, rising(), api.ErrSig)
	wantError(t, slices.Repeat([]string{""}, 67), rising(), api.ErrSig)
	wantRecover(t, replaced(sig, 0, strings.Repeat("ā", 16)), rising(), hash("public", endsOf(replaced(sig, 0, strings.Repeat("ā", 16)), rising())...))
}

// P13.2, R2: of both a wrong digest and a wrong signature the digest's error comes.
func TestRecoverOfBothWrong(t *testing.T) {
	sig := signed(t, key{"seed", 7}, rising())
	for _, digest := range []string{"", noughts[1:], noughts + "\x00", noughts + noughts, strings.Repeat("ā", 32)} {
		for _, wrong := range [][]string{nil, {}, sig[:66], append(slices.Clone(sig), rising()), {digest}} {
			wantError(t, wrong, digest, api.ErrArg)
		}
		for i := range sig {
			for _, text := range wrongTexts() {
				wantError(t, replaced(sig, i, text), digest, api.ErrArg)
			}
		}
	}
}

// P13.3: from a signature what is public comes, of each key and of each digest.
func TestPublicComes(t *testing.T) {
	for _, k := range keys() {
		public := wots.Public(k.seed, k.index)
		for _, digest := range digests()[:4] {
			wantRecover(t, signed(t, k, digest), digest, public)
		}
	}
	draw := rand.New(rand.NewSource(4))
	for range 100 {
		k, digest := key{drawn(draw, draw.Intn(100)), draw.Uint64()}, drawn(draw, 32)
		wantRecover(t, signed(t, k, digest), digest, k.public())
	}
}

// P13.3: with another text in the place of one, the end that comes of it stands in its place, and all others stay.
func TestAnotherText(t *testing.T) {
	draw := rand.New(rand.NewSource(5))
	for _, k := range fewKeys() {
		for _, digest := range digests()[:3] {
			sig := signed(t, k, digest)
			ends := endsOf(sig, digest)
			at := digits(digest)
			public := wots.Public(k.seed, k.index)
			for i := range sig {
				for _, text := range []string{drawn(draw, 32), noughts, sig[(i+1)%67]} {
					want := hash("public", replaced(ends, i, walk(i, at[i], 15, text))...)
					if want == public {
						t.Fatalf("another text at %d makes no other public text", i)
					}
					wantRecover(t, replaced(sig, i, text), digest, want)
				}
			}
		}
	}
}

// P13.3: another text at two places, and two texts that have changed places, count at both.
func TestTwoOtherTexts(t *testing.T) {
	sig := signed(t, key{"seed", 7}, rising())
	ends := endsOf(sig, rising())
	at := digits(rising())
	for i := range 66 {
		j := 66 - i/2
		if i == j {
			continue
		}
		want := replaced(replaced(ends, i, walk(i, at[i], 15, sig[j])), j, walk(j, at[j], 15, sig[i]))
		wantRecover(t, replaced(replaced(sig, i, sig[j]), j, sig[i]), rising(), hash("public", want...))
	}
}

// P13.2: of a signature and another digest comes what its texts give at that one's digits: no public text of the key.
func TestAnotherDigest(t *testing.T) {
	for _, k := range fewKeys() {
		public := wots.Public(k.seed, k.index)
		for _, digest := range digests()[:8] {
			sig := signed(t, k, digest)
			for _, other := range digests()[:8] {
				want := hash("public", endsOf(sig, other)...)
				if (want == public) != (other == digest) {
					t.Fatalf("of a signature of %x, taken for one of %x, comes %x", digest, other, want)
				}
				wantRecover(t, sig, other, want)
			}
		}
	}
}

// R5: neither the signature that is handed in nor what stands behind its end is changed, whatever is answered.
func TestSignatureStaysAsItWas(t *testing.T) {
	for _, digest := range append(digests(), "", noughts[1:]) {
		for _, size := range []int{0, 1, 66, 67, 68} {
			all := slices.Repeat([]string{rising(), noughts, highs}, 30)
			all[67] = "a text that is no digest"
			want := slices.Clone(all)
			wots.Recover(all[:size], digest)
			wots.Recover(all[1:1+size], digest)
			if !slices.Equal(all, want) {
				t.Fatalf("%d texts, handed in with %x, were changed", size, digest)
			}
		}
	}
}

// R5: the signature is not kept: what it becomes afterwards changes nothing, and counts when it is handed in again.
func TestSignatureIsNotKept(t *testing.T) {
	k := key{"seed", 7}
	sig := signed(t, k, rising())
	public, e := wots.Recover(sig, rising())
	for i := range sig {
		sig[i] = noughts
		wantRecover(t, sig, rising(), hash("public", endsOf(sig, rising())...))
	}
	if public != k.public() || e != api.OK {
		t.Errorf("what came became %x, %v", public, e)
	}
	wantSign(t, k, rising())
}

// R6: what was asked ahead, of others and in vain, changes no answer.
func TestRecoverAnswersTheSame(t *testing.T) {
	draw := rand.New(rand.NewSource(6))
	sig := drawnSig(draw)
	want := hash("public", endsOf(sig, rising())...)
	for _, digest := range digests() {
		other := drawnSig(draw)
		wantError(t, other[1:], digest, api.ErrSig)
		wantError(t, other, digest[1:], api.ErrArg)
		wantRecover(t, other, digest, hash("public", endsOf(other, digest)...))
		wantRecover(t, sig, rising(), want)
	}
}
