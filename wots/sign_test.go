package wots_test

import (
	"encoding/hex"
	"math"
	"slices"
	"strings"
	"testing"

	"sextant/api"
	"sextant/chain"
	"sextant/dom"
	"sextant/wots"
)

// P13.1: the chapter's examples.
func TestSignExamples(t *testing.T) {
	wantNoSign(t, key{"s", 3}, noughts[1:])
	sig, e := wots.Sign("s", 3, noughts)
	if e != api.OK || len(sig) != 67 {
		t.Fatalf("Sign of 32 noughts answers %d texts, %v", len(sig), e)
	}
	if want := dom.Hash("secret", "s", dom.Num(3), "\x42"); sig[66] != want {
		t.Errorf("the last text is %x, not the secret %x", sig[66], want)
	}
}

// P13.1: each text of a signature stands where a walk from the key's secret comes to.
func TestSign(t *testing.T) {
	for _, k := range fewKeys() {
		for _, digest := range digests() {
			wantSign(t, k, digest)
		}
	}
	for _, k := range keys() {
		wantSign(t, k, noughts)
		wantSign(t, k, highs)
		wantSign(t, k, rising())
	}
}

// P13.1: some texts of a signature, written out.
func TestSignWrittenOut(t *testing.T) {
	sig := signed(t, key{"seed", 7}, rising())
	for i, want := range map[int]string{
		0:  "fd44172d603c4fe7e7f4e54afd9804d96028a7232266e64120bc91f9cc3b8eee", // at 0
		1:  "065a27e31cd245d89bc0bb870db815bca441763df74d8f3a1a35f3ef797e4a47", // at 0
		2:  "b718a0ca1a74c192113bbf0df0b9b510b799525302ff54f0a5f44c2768be3b09", // at 0
		33: "59edbe6f0f7628bf0f98443550d60f5db5f64d24007e0bed4ebf895cf2c6e183", // at 0
		63: "5ce6c93b3c0fb45355b44f0d69771e903983464979eb25c3a1801e19040b1c6c", // at 15
		64: "a121d76c4078141bb10c38a799eb5fe1741a28e5fcd47f60cc1999ff35e7eb57", // at 2
		65: "05dce986b62bbe2083aac9e17de0e95bd58dd60ce7a334031240a61101612590", // at 12
		66: "38e66a56b620bec570bd721379aac0fc265f0b4ab251d8225fda09b0eb38d691", // at 0
	} {
		if got := hex.EncodeToString([]byte(sig[i])); got != want {
			t.Errorf("the text %d is %s, not %s", i, got, want)
		}
	}
}

// P13.1: of 32 noughts each half's text is the secret; of 32 times ff it is the end, and the sum's texts are secrets.
func TestSignAtBothEnds(t *testing.T) {
	for _, k := range keys() {
		low, high := signed(t, k, noughts), signed(t, k, highs)
		for i := range 64 {
			if low[i] != k.secret(i) || high[i] != walk(i, 0, 15, k.secret(i)) {
				t.Fatalf("of %.50q and %d the chain %d has %x and %x", k.seed, k.index, i, low[i], high[i])
			}
		}
		for i, digit := range map[int]int{64: 3, 65: 12, 66: 0} {
			if low[i] != walk(i, 0, digit, k.secret(i)) || high[i] != k.secret(i) {
				t.Fatalf("of %.50q and %d the chain %d has %x and %x", k.seed, k.index, i, low[i], high[i])
			}
		}
	}
}

// P13.1: each half at each of its digits, by the layers below.
func TestSignEachDigit(t *testing.T) {
	for half := range 64 {
		for digit := range 16 {
			bytes := []byte(rising())
			shift := 4 - 4*(half%2)
			bytes[half/2] = bytes[half/2]&^(15<<shift) | byte(digit<<shift)
			want := chain.Walk(half, 0, digit, dom.Hash("secret", "s", dom.Num(9), string([]byte{byte(half)})))
			if got := signed(t, key{"s", 9}, string(bytes))[half]; got != want {
				t.Fatalf("at %d of the chain %d stands %x, not %x", digit, half, got, want)
			}
		}
	}
}

// P13.1: digests that have not 32 bytes, of any key.
func TestSignOfNoDigest(t *testing.T) {
	for _, digest := range []string{"", noughts[1:], noughts + "\x00", noughts + noughts} {
		for _, k := range keys() {
			wantNoSign(t, k, digest)
		}
	}
	for _, digest := range noDigests() {
		wantNoSign(t, key{"seed", 7}, digest)
		wantNoSign(t, key{"", math.MaxUint64}, digest)
	}
}

// P13.1: a digest of 16 characters, which has 32 bytes, is one.
func TestSignCountsBytes(t *testing.T) {
	wantSign(t, key{"ā", 1}, strings.Repeat("ā", 16))
	wantNoSign(t, key{"ā", 1}, strings.Repeat("ā", 32))
}

// R5: an answer that is changed afterwards, behind its end too, changes no other answer.
func TestSignaturesAreNew(t *testing.T) {
	for _, k := range fewKeys() {
		for _, digest := range digests() {
			want := k.sign(digest)
			early, first, second := signed(t, k, digest), signed(t, k, digest), signed(t, k, digest)
			all := first[:cap(first)]
			for i := range all {
				all[i] = "changed"
			}
			longer := append(second, "one", "more")
			for i := range longer {
				longer[i] = "changed"
			}
			if !slices.Equal(early, want) {
				t.Fatalf("the signature of %x became %x", digest, early)
			}
			wantSign(t, k, digest)
			wantRecover(t, early, digest, k.public())
		}
	}
}

// R5: of two answers no place is the same.
func TestTwoSignaturesShareNothing(t *testing.T) {
	k := key{"seed", 7}
	first, second := signed(t, k, rising()), signed(t, k, rising())
	want := k.sign(rising())
	for i := range first {
		first[i] = "changed"
		if !slices.Equal(second, want) {
			t.Fatalf("writing over the text %d changed another answer", i)
		}
	}
	for _, text := range first {
		if text != "changed" {
			t.Fatalf("what was written over became %x", text)
		}
	}
}

// R6: what was asked ahead, of other keys and digests, or in vain, changes no answer.
func TestSignAnswersTheSame(t *testing.T) {
	for range 2 {
		for _, digest := range digests() {
			for _, k := range fewKeys() {
				wantNoSign(t, k, digest[1:])
				wantSign(t, k, digest)
				wantError(t, nil, digest, api.ErrSig)
				wantSign(t, k, digest)
			}
		}
	}
}
