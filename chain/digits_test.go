package chain_test

import (
	"slices"
	"strings"
	"testing"

	"sextant/chain"
)

// P12.1: the chapter's examples.
func TestDigitsExamples(t *testing.T) {
	wantDigits(t, noughts, append(make([]int, 64), 3, 12, 0))
	wantDigits(t, "\xff"+noughts[1:], slices.Concat([]int{15, 15}, make([]int, 62), []int{3, 10, 2}))
}

// P12.1: digits that are written out: the higher half of a byte stands ahead of the lower one, and the bytes in order.
func TestDigitsWrittenOut(t *testing.T) {
	wantDigits(t, highs, append(slices.Repeat([]int{15}, 64), 0, 0, 0))
	wantDigits(t, strings.Repeat("\x0f", 32), append(slices.Repeat([]int{0, 15}, 32), 1, 14, 0))
	wantDigits(t, strings.Repeat("\xf0", 32), append(slices.Repeat([]int{15, 0}, 32), 1, 14, 0))
	wantDigits(t, strings.Repeat("\x12", 32), append(slices.Repeat([]int{1, 2}, 32), 3, 6, 0))
	wantDigits(t, highs[1:]+"\xfe", append(slices.Repeat([]int{15}, 63), 14, 0, 0, 1))
	wantDigits(t, highs[1:]+"\xef", slices.Concat(slices.Repeat([]int{15}, 62), []int{14, 15, 0, 0, 1}))
	wantDigits(t, highs[1:]+"\x00", slices.Concat(slices.Repeat([]int{15}, 62), []int{0, 0, 0, 1, 14}))
	wantDigits(t, highs[8:]+noughts[:8], slices.Concat(slices.Repeat([]int{15}, 48), make([]int, 16), []int{0, 15, 0}))
	wantDigits(t, "\x1f"+noughts[1:], slices.Concat([]int{1, 15}, make([]int, 62), []int{3, 11, 0}))
	var first, last []int
	for i := range 32 {
		first = append(first, i/16, i%16)
		last = append(last, i%16, i/16)
	}
	wantDigits(t, rising(), append(first, 2, 12, 0))
	turned := []byte(rising())
	for i, b := range turned {
		turned[i] = b<<4 | b>>4
	}
	wantDigits(t, string(turned), append(last, 2, 12, 0))
}

// P12.1: texts that have not 32 bytes, such as have 32 characters among them.
func TestDigitsOfNoDigest(t *testing.T) {
	for size := range 300 {
		if size == 32 {
			continue
		}
		wantDigits(t, strings.Repeat("\x00", size), nil)
		wantDigits(t, strings.Repeat("\xff", size), nil)
		wantDigits(t, strings.Repeat("a", size), nil)
	}
	wantDigits(t, strings.Repeat("ā", 32), nil)
	wantDigits(t, strings.Repeat("a", 32+256), nil)
	wantDigits(t, strings.Repeat("a", 1<<16+32), nil)
	if got := chain.Digits(strings.Repeat("ā", 16)); len(got) != 67 {
		t.Errorf("a text of 16 characters, 32 bytes, has %d digits", len(got))
	}
}

// P12.1: each byte in turn is each value that a byte can have: each of the 64 halves, and the sum, against the reference.
func TestEachByteInTurn(t *testing.T) {
	for _, digest := range []string{noughts, highs, rising()} {
		for i := range 32 {
			for b := range 256 {
				other := replaced(digest, i, byte(b))
				digits := chain.Digits(other)
				if len(digits) != 67 || digits[2*i] != b>>4 || digits[2*i+1] != b&15 {
					t.Fatalf("the digits of %x are %v", other, digits)
				}
				wantDigits(t, other, reference(other))
			}
		}
	}
}

// ofSum is a digest whose halves lack so much of the highest ones, the first ones all that they can.
func ofSum(sum int) string {
	bytes := []byte(highs)
	for half := range 64 {
		less := min(sum, 15)
		bytes[half/2] -= byte(less << (4 - 4*(half%2)))
		sum -= less
	}
	return string(bytes)
}

// P12.1: each sum from 0 to 960 has its three digits, the highest first.
func TestEachSum(t *testing.T) {
	if ofSum(0) != highs || ofSum(960) != noughts {
		t.Fatal("the digests of the least sum and of the greatest one are wrong")
	}
	for sum := range 961 {
		digits := chain.Digits(ofSum(sum))
		if len(digits) != 67 || !slices.Equal(digits[64:], []int{sum / 256, sum / 16 % 16, sum % 16}) {
			t.Fatalf("the digits of the sum %d are %v", sum, digits)
		}
	}
}

// P12.1: of many digests the digits are the reference's, and each is from 0 to 15.
func TestDigitsAsReference(t *testing.T) {
	for _, digest := range digests() {
		wantDigits(t, digest, reference(digest))
		for i, digit := range chain.Digits(digest) {
			if digit < 0 || digit > 15 {
				t.Fatalf("the digit %d of %x is %d", i, digest, digit)
			}
		}
	}
}

// P12.1: a digest comes back from its digits.
func TestDigestComesBack(t *testing.T) {
	for _, digest := range digests() {
		digits := chain.Digits(digest)
		if len(digits) != 67 {
			t.Fatalf("%x has %d digits", digest, len(digits))
		}
		back := make([]byte, 32)
		for i := range back {
			back[i] = byte(digits[2*i]*16 + digits[2*i+1])
		}
		if string(back) != digest {
			t.Fatalf("of the digits of %x comes %x", digest, back)
		}
	}
}

// wantUnlike asks for a place with less and a place with more, either way round.
func wantUnlike(t *testing.T, a, b string) {
	t.Helper()
	first, second := chain.Digits(a), chain.Digits(b)
	if len(first) != 67 || len(second) != 67 {
		t.Fatalf("%x and %x have %d and %d digits", a, b, len(first), len(second))
	}
	less, more := false, false
	for i := range first {
		less = less || first[i] < second[i]
		more = more || first[i] > second[i]
	}
	if !less || !more {
		t.Fatalf("of %x and %x a place is less: %v, is more: %v", a, b, less, more)
	}
}

// P12.3: of two unlike digests one digit is less, and one is more.
func TestUnlikeDigests(t *testing.T) {
	all := digests()
	for i, a := range all {
		for _, b := range all[:i] {
			wantUnlike(t, a, b)
		}
	}
	for sum := range 960 {
		wantUnlike(t, ofSum(sum), ofSum(sum+1))
		wantUnlike(t, ofSum(sum), noughts)
		wantUnlike(t, highs, ofSum(sum+1))
	}
}

// P12.3: so it is of digests that differ in one bit, or in one byte alone.
func TestDigestsThatDifferAtOnePlace(t *testing.T) {
	for _, digest := range digests() {
		for bit := range 256 {
			wantUnlike(t, digest, flipped(digest, bit))
		}
	}
	for i := range 32 {
		for a := range 256 {
			for b := range a {
				wantUnlike(t, replaced(rising(), i, byte(a)), replaced(rising(), i, byte(b)))
			}
		}
	}
}

// P12.3: so it is of digests whose halves have the same sum: one of the halves is less then, and one is more.
func TestUnlikeDigestsOfOneSum(t *testing.T) {
	for _, digest := range digests()[2:] {
		for i := range 31 {
			bytes := []byte(digest)
			bytes[i], bytes[i+1] = bytes[i+1], bytes[i]
			if string(bytes) != digest {
				wantUnlike(t, digest, string(bytes))
			}
		}
	}
}

// R5: an answer that is changed afterwards, behind its end too, changes no other answer.
func TestDigitsAreNew(t *testing.T) {
	for _, digest := range digests() {
		want := reference(digest)
		early, first, second := chain.Digits(digest), chain.Digits(digest), chain.Digits(digest)
		all := first[:cap(first)]
		for i := range all {
			all[i] = 99
		}
		longer := append(second, 1, 2, 3)
		for i := range longer {
			longer[i] = -1
		}
		if !slices.Equal(early, want) {
			t.Fatalf("the digits of %x became %v", digest, early)
		}
		wantDigits(t, digest, want)
	}
}

// R5: of two answers no place is the same.
func TestTwoAnswersShareNothing(t *testing.T) {
	first, second := chain.Digits(rising()), chain.Digits(rising())
	want := reference(rising())
	for i := range first {
		first[i] = 16
		if !slices.Equal(second, want) {
			t.Fatalf("writing over the digit %d changed another answer to %v", i, second)
		}
	}
	for _, digit := range first {
		if digit != 16 {
			t.Fatalf("what was written over became %v", first)
		}
	}
}

// R6: whatever was asked ahead, the answer is the same.
func TestDigitsAnswerTheSame(t *testing.T) {
	for range 3 {
		for _, digest := range digests() {
			wantDigits(t, "", nil)
			wantDigits(t, digest, reference(digest))
			wantDigits(t, digest[1:], nil)
			wantDigits(t, digest, reference(digest))
		}
	}
}
