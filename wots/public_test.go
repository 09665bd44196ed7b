package wots_test

import (
	"crypto/sha256"
	"encoding/hex"
	"math"
	"strings"
	"testing"

	"sextant/wots"
)

// P13.1: of each seed and index what is public is the hash of the ends, put together by the library.
func TestPublic(t *testing.T) {
	for _, k := range keys() {
		if got, want := wots.Public(k.seed, k.index), k.public(); got != want {
			t.Errorf("Public of %.50q and %d is %x, not %x", k.seed, k.index, got, want)
		}
	}
}

// P13.1: what is public of some keys, written out.
func TestPublicWrittenOut(t *testing.T) {
	for _, row := range []struct {
		key
		want string
	}{
		{key{"", 0}, "6307a9aee9dfa2e6b6e92e02e14debbe0b9c1f328514f86e94e9b642de9d7bc2"},
		{key{"seed", 7}, "409edca80d1342246a39f4ed4da8a7709a8aff65e5c6606d00409dae44096302"},
		{key{rising(), 1 << 32}, "5d607b7bd5b4c89d3ea4506ff2a1e7e63146a86d5817b1a8282ab833e143319b"},
		{key{highs, math.MaxUint64}, "a8c6060454b0fe2a0c2847639d3a142b86cac6ec5ed7bb148371ab3a5015a968"},
		{key{strings.Repeat("s", 1000), 1}, "b5241fe305a8e32525ba6498a8ac81b22de2304f0e3aabf3161d443d83ab8396"},
	} {
		if got := hex.EncodeToString([]byte(wots.Public(row.seed, row.index))); got != row.want {
			t.Errorf("Public of %.50q and %d is %s, not %s", row.seed, row.index, got, row.want)
		}
	}
}

// P13.1: the bytes of a secret's frame, and those ahead of the ends, are written out, one behind the other.
func TestFramesWrittenOut(t *testing.T) {
	secret := "06736563726574" + "0000000000000002" + "6162" + "0000000000000008" + "0000000100000203" + "0000000000000001" + "42"
	k := key{"ab", 1<<32 + 515}
	if got := signed(t, k, noughts)[66]; got != sumOf(t, secret) {
		t.Errorf("the secret of the chain 66 is %x", got)
	}
	frame := "067075626c6963"
	for i, end := range endsOf(signed(t, k, noughts), noughts) {
		if want := walk(i, 0, 15, k.secret(i)); end != want {
			t.Errorf("the end of the chain %d is %x, not %x", i, end, want)
		}
		frame += "0000000000000020" + hex.EncodeToString([]byte(end))
	}
	if got := wots.Public(k.seed, k.index); got != sumOf(t, frame) {
		t.Errorf("what is public is %x", got)
	}
}

// sumOf is the library's sum of bytes that are written to the base 16.
func sumOf(t *testing.T, written string) string {
	t.Helper()
	bytes, err := hex.DecodeString(written)
	if err != nil {
		t.Fatal(err)
	}
	sum := sha256.Sum256(bytes)
	return string(sum[:])
}

// P13.1: a seed of very many bytes.
func TestLongSeed(t *testing.T) {
	k := key{strings.Repeat("long ", 1<<15) + "seed", 5}
	if got, want := wots.Public(k.seed, k.index), k.public(); got != want {
		t.Errorf("Public of a seed of %d bytes is %x, not %x", len(k.seed), got, want)
	}
	wantSign(t, k, rising())
	wantRecover(t, signed(t, k, rising()), rising(), k.public())
}

// P13.1: both the seed and the index count, each of their bytes: no two keys have the same public text.
func TestUnlikeKeys(t *testing.T) {
	all := keys()
	for i := range 32 {
		seed := []byte(rising())
		seed[i] ^= 0x80
		all = append(all, key{string(seed), 0})
	}
	for bit := range 64 {
		all = append(all, key{"of its own", 1 << bit})
	}
	all = append(all, key{"s\x00", 0}, key{"\x00s", 0}, key{"seed", 7}, key{"see", 'd'})
	met := map[string]key{}
	for _, k := range all {
		public := wots.Public(k.seed, k.index)
		if other, there := met[public]; there {
			t.Errorf("%.50q and %d, and %.50q and %d, have the same public text", k.seed, k.index, other.seed, other.index)
		}
		if len(public) != 32 {
			t.Errorf("Public of %.50q and %d has %d bytes", k.seed, k.index, len(public))
		}
		met[public] = k
	}
}

// R6: what was asked ahead, of other keys and in vain, changes no answer.
func TestPublicAnswersTheSame(t *testing.T) {
	want := key{"seed", 7}.public()
	for _, k := range keys() {
		wots.Public(k.seed, k.index)
		wots.Sign(k.seed, k.index, k.seed)
		wots.Recover(nil, k.seed)
		if got := wots.Public("seed", 7); got != want {
			t.Fatalf("what is public became %x", got)
		}
	}
}
