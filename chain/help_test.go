package chain_test

import (
	"crypto/sha256"
	"encoding/binary"
	"fmt"
	"math"
	"math/rand"
	"slices"
	"strings"
	"testing"

	"sextant/chain"
)

var (
	noughts = strings.Repeat("\x00", 32)
	highs   = strings.Repeat("\xff", 32)
)

// rising is the digest 00 01 02 .. 1f.
func rising() string {
	all := make([]byte, 32)
	for i := range all {
		all[i] = byte(i)
	}
	return string(all)
}

// digests are some that are unlike, each byte's value among them.
func digests() []string {
	all := []string{noughts, highs, rising(), strings.Repeat("\x0f", 32), strings.Repeat("\xf0", 32), strings.Repeat("\x80\x7f", 16)}
	draw := rand.New(rand.NewSource(12))
	for range 100 {
		all = append(all, drawn(draw, 32))
	}
	return all
}

func drawn(draw *rand.Rand, size int) string {
	bytes := make([]byte, size)
	draw.Read(bytes)
	return string(bytes)
}

// replaced is the digest with another byte at one place.
func replaced(digest string, i int, b byte) string {
	bytes := []byte(digest)
	bytes[i] = b
	return string(bytes)
}

// flipped is the digest with another bit.
func flipped(digest string, bit int) string {
	return replaced(digest, bit/8, digest[bit/8]^1<<(bit%8))
}

// reference are a digest's digits, as the library writes its bytes, and their sum, to the base 16.
func reference(digest string) []int {
	written := fmt.Sprintf("%x", digest)
	sum := 0
	for _, digit := range written {
		sum += 15 - strings.IndexRune("0123456789abcdef", digit)
	}
	written += fmt.Sprintf("%03x", sum)
	digits := make([]int, len(written))
	for i := range digits {
		digits[i] = strings.IndexByte("0123456789abcdef", written[i])
	}
	return digits
}

func wantDigits(t *testing.T, digest string, want []int) {
	t.Helper()
	if got := chain.Digits(digest); !slices.Equal(got, want) {
		t.Fatalf("the digits of %x are %v, not %v", digest, got, want)
	}
}

// step is what stands at the next place, put together by the library's own means.
func step(i, j int, x string) string {
	frame := []byte("\x05chain")
	for _, part := range []string{string([]byte{byte(i)}), string([]byte{byte(j)}), x} {
		frame = binary.BigEndian.AppendUint64(frame, uint64(len(part)))
		frame = append(frame, part...)
	}
	sum := sha256.Sum256(frame)
	return string(sum[:])
}

// stands is what stands at each place of a chain from the first one on, if x stands there.
func stands(i, from int, x string) map[int]string {
	all := map[int]string{from: x}
	for j := from; j < 15; j++ {
		all[j+1] = step(i, j, all[j])
	}
	return all
}

func wantWalk(t *testing.T, i, from, to int, x, want string) {
	t.Helper()
	if got := chain.Walk(i, from, to, x); got != want {
		t.Fatalf("the walk of the chain %d from %d to %d, of %.100q, is %x, not %x", i, from, to, x, got, want)
	}
}

// texts are some of several sizes, at the edges of a hash's blocks too.
func texts() []string {
	all := []string{"", "\x00", "x", rising(), noughts, highs, "ā text", "secret"}
	draw := rand.New(rand.NewSource(15))
	for _, size := range []int{1, 2, 15, 16, 30, 31, 32, 33, 55, 64, 255, 256, 1000, 65536, 100001} {
		all = append(all, drawn(draw, size))
	}
	return all
}

// far are numbers far below and far above, some of which would fit if they were cut to fewer bits.
func far() []int {
	all := []int{math.MinInt, math.MinInt + 1, math.MaxInt, math.MaxInt - 1, -100, 100, -67, -16, -15, 68, 127, 128, 255, 256, -256, -255}
	for shift := 8; shift < 63; shift++ {
		all = append(all, 1<<shift, 1<<shift+1, 1<<shift+15, -(1 << shift), 1-1<<shift, 5-1<<shift)
	}
	return all
}

// sum is the library's SHA-256.
func sum(text string) string {
	digest := sha256.Sum256([]byte(text))
	return string(digest[:])
}
