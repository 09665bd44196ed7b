package wots_test

import (
	"crypto/sha256"
	"encoding/binary"
	"fmt"
	"math"
	"math/rand"
	"slices"
	"strings"
	"testing"

	"sextant/api"
	"sextant/wots"
)

const chains = 67

var (
	noughts = strings.Repeat("\x00", 32)
	highs   = strings.Repeat("\xff", 32)
)

// rising is the text 00 01 02 .. 1f.
func rising() string {
	all := make([]byte, 32)
	for i := range all {
		all[i] = byte(i)
	}
	return string(all)
}

func drawn(draw *rand.Rand, size int) string {
	bytes := make([]byte, size)
	draw.Read(bytes)
	return string(bytes)
}

// digests are some that are unlike, the least one and the greatest one among them.
func digests() []string {
	all := []string{noughts, highs, rising(), strings.Repeat("\x0f", 32), strings.Repeat("\xf0", 32), strings.Repeat("ā", 16)}
	draw := rand.New(rand.NewSource(13))
	for range 20 {
		all = append(all, drawn(draw, 32))
	}
	return all
}

// noDigests have not 32 bytes, 32 characters some of them.
func noDigests() []string {
	all := []string{strings.Repeat("ā", 32), strings.Repeat("a", 32+256), strings.Repeat("a", 1<<16+32)}
	for size := range 100 {
		if size != 32 {
			all = append(all, strings.Repeat("\x00", size), strings.Repeat("a", size))
		}
	}
	return all
}

// key is a seed and an index, as a call is given them.
type key struct {
	seed  string
	index uint64
}

func indexes() []uint64 {
	return []uint64{0, 1, 2, 63, 255, 256, 1<<32 - 1, 1 << 32, 1<<32 + 1, 1 << 63, math.MaxUint64 - 1, math.MaxUint64}
}

// keys are seeds of several sizes, each with several indexes.
func keys() []key {
	draw := rand.New(rand.NewSource(1))
	seeds := []string{"", "\x00", "s", rising(), noughts, highs, "ā seed", "secret", drawn(draw, 31), drawn(draw, 33), drawn(draw, 5000)}
	var all []key
	for _, seed := range seeds {
		for _, index := range indexes() {
			all = append(all, key{seed, index})
		}
	}
	return all
}

func fewKeys() []key {
	return []key{{"", 0}, {"s", 3}, {rising(), 1 << 32}, {highs, math.MaxUint64}}
}

// hash is the library's sum of a tag's frame.
func hash(tag string, parts ...string) string {
	frame := append([]byte{byte(len(tag))}, tag...)
	for _, part := range parts {
		frame = binary.BigEndian.AppendUint64(frame, uint64(len(part)))
		frame = append(frame, part...)
	}
	sum := sha256.Sum256(frame)
	return string(sum[:])
}

// secret is what stands at 0 of a chain.
func (k key) secret(i int) string {
	eight := string(binary.BigEndian.AppendUint64(nil, k.index))
	return hash("secret", k.seed, eight, string([]byte{byte(i)}))
}

// walk is chapter 12's, put together by the library's own means.
func walk(i, from, to int, x string) string {
	for j := from; j < to; j++ {
		x = hash("chain", string([]byte{byte(i)}), string([]byte{byte(j)}), x)
	}
	return x
}

// digits are chapter 12's, as the library writes a digest's bytes, and their sum, to the base 16.
func digits(digest string) []int {
	written := fmt.Sprintf("%x", digest)
	sum := 0
	for _, digit := range written {
		sum += 15 - strings.IndexRune("0123456789abcdef", digit)
	}
	written += fmt.Sprintf("%03x", sum)
	all := make([]int, len(written))
	for i := range all {
		all[i] = strings.IndexByte("0123456789abcdef", written[i])
	}
	return all
}

// public is the key's, by the reference alone.
func (k key) public() string {
	ends := make([]string, chains)
	for i := range ends {
		ends[i] = walk(i, 0, 15, k.secret(i))
	}
	return hash("public", ends...)
}

// sign is the key's signature, by the reference alone.
func (k key) sign(digest string) []string {
	sig := make([]string, chains)
	for i, digit := range digits(digest) {
		sig[i] = walk(i, 0, digit, k.secret(i))
	}
	return sig
}

// endsOf are those that come of a signature, by the reference alone.
func endsOf(sig []string, digest string) []string {
	ends := make([]string, chains)
	for i, digit := range digits(digest) {
		ends[i] = walk(i, digit, 15, sig[i])
	}
	return ends
}

// drawnSig is a signature that no key made.
func drawnSig(draw *rand.Rand) []string {
	sig := make([]string, chains)
	for i := range sig {
		sig[i] = drawn(draw, 32)
	}
	return sig
}

// replaced is a signature of its own with another text at one place.
func replaced(sig []string, i int, text string) []string {
	other := slices.Clone(sig)
	other[i] = text
	return other
}

func signed(t *testing.T, k key, digest string) []string {
	t.Helper()
	sig, e := wots.Sign(k.seed, k.index, digest)
	if e != api.OK || len(sig) != chains {
		t.Fatalf("Sign of %.50q, %d and %x answers %d texts, %v", k.seed, k.index, digest, len(sig), e)
	}
	return sig
}

func wantSign(t *testing.T, k key, digest string) {
	t.Helper()
	want := k.sign(digest)
	for i, text := range signed(t, k, digest) {
		if text != want[i] {
			t.Fatalf("the text %d of the signature of %.50q, %d and %x is %x, not %x", i, k.seed, k.index, digest, text, want[i])
		}
	}
}

func wantNoSign(t *testing.T, k key, digest string) {
	t.Helper()
	if sig, e := wots.Sign(k.seed, k.index, digest); sig != nil || e != api.ErrArg {
		t.Fatalf("Sign of a digest of %d bytes answers %d texts, %v", len(digest), len(sig), e)
	}
}

func wantRecover(t *testing.T, sig []string, digest, want string) {
	t.Helper()
	if got, e := wots.Recover(sig, digest); got != want || e != api.OK {
		t.Fatalf("of a signature of %x comes %x, %v, not %x", digest, got, e, want)
	}
}

func wantError(t *testing.T, sig []string, digest string, want api.Errno) {
	t.Helper()
	if got, e := wots.Recover(sig, digest); got != "" || e != want {
		t.Fatalf("of %d texts and a digest of %d bytes comes %x, %v, not %v", len(sig), len(digest), got, e, want)
	}
}
