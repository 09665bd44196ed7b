package sha_test

import (
	"crypto/sha256"
	"encoding/hex"
	"math/rand"
	"strings"
	"testing"

	"sextant/sha"
)

// reference is the sum by the library's own SHA-256.
func reference(s string) string {
	sum := sha256.Sum256([]byte(s))
	return string(sum[:])
}

// sample is a text of n bytes of all values, so that no two places of a block look alike.
func sample(n int) string {
	text := make([]byte, n)
	for i := range text {
		text[i] = byte(i*7 + i/64 + 200)
	}
	return string(text)
}

// edges are the lengths around which padding takes another block, or a block is full.
var edges = []int{0, 1, 3, 54, 55, 56, 57, 62, 63, 64, 65, 118, 119, 120, 121, 127, 128, 129, 183, 184, 191, 192, 193}

func wantSum(t *testing.T, what, got, text string) {
	t.Helper()
	if got != reference(text) {
		t.Errorf("%s: sum of %d bytes is %x, not %x", what, len(text), got, reference(text))
	}
}

// P1.1: the chapter's examples, and those of FIPS 180-4.
func TestSumExamples(t *testing.T) {
	examples := []struct{ text, sum string }{
		{"", "e3b0c44298fc1c149afbf4c8996fb92427ae41e4649b934ca495991b7852b855"},
		{"abc", "ba7816bf8f01cfea414140de5dae2223b00361a396177a9cb410ff61f20015ad"},
		{"abcdbcdecdefdefgefghfghighijhijkijkljklmklmnlmnomnopnopq", "248d6a61d20638b8e5c026930c3e6039a33ce45964ff2167f6ecedd419db06c1"},
		{strings.Repeat("a", 1000000), "cdc76e5c9914fb9281a1c7e284d73e67f1809a48a497200e046d39ccc7112cd0"},
	}
	for _, e := range examples {
		if got := hex.EncodeToString([]byte(sha.Sum(e.text))); got != e.sum {
			t.Errorf("Sum of %d bytes is %s, not %s", len(e.text), got, e.sum)
		}
	}
}

// P1.1: every length through five blocks, and some long ones.
func TestSumOfAllLengths(t *testing.T) {
	for n := range 321 {
		wantSum(t, "Sum", sha.Sum(sample(n)), sample(n))
	}
	for _, n := range []int{4095, 4096, 4097, 65535, 65536, 70001} {
		wantSum(t, "Sum", sha.Sum(sample(n)), sample(n))
	}
}

// P1.1: a text is bytes, whatever they are: noughts, what looks like padding, what is no UTF-8.
func TestSumOfAnyBytes(t *testing.T) {
	for _, n := range edges {
		for _, b := range []string{"\x00", "\x80", "\xff"} {
			text := strings.Repeat(b, n)
			wantSum(t, "Sum", sha.Sum(text), text)
		}
	}
	padded := "abc\x80" + strings.Repeat("\x00", 59) + "\x18"
	wantSum(t, "Sum of what abc is padded to", sha.Sum(padded), padded)
}

// P1.2: the chapter's example.
func TestHasherExample(t *testing.T) {
	h := sha.New()
	h.Write("a")
	wantSum(t, "behind a", h.Sum(), "a")
	h.Write("bc")
	wantSum(t, "behind bc", h.Sum(), "abc")
	if h.Len() != 3 {
		t.Errorf("Len is %d, not 3", h.Len())
	}
}

// P1.2: a new hasher has no text, whatever others have.
func TestNewHasNoText(t *testing.T) {
	other := sha.New()
	other.Write(sample(200))
	h := sha.New()
	if h == nil {
		t.Fatal("New answers none")
	}
	if h.Len() != 0 {
		t.Errorf("Len is %d, not 0", h.Len())
	}
	wantSum(t, "new", h.Sum(), "")
	h.Write("")
	if h.Len() != 0 {
		t.Errorf("Len behind nothing is %d, not 0", h.Len())
	}
	wantSum(t, "new, and nothing written", h.Sum(), "")
	h.Write("x")
	wantSum(t, "the other one", other.Sum(), sample(200))
}

// P1.2: Sum changes nothing, even where padding fills the block or takes another one.
func TestSumGoesOnAsItWas(t *testing.T) {
	for _, n := range edges {
		h := sha.New()
		h.Write(sample(n))
		wantSum(t, "first", h.Sum(), sample(n))
		wantSum(t, "again", h.Sum(), sample(n))
		if h.Len() != uint64(n) {
			t.Errorf("Len is %d, not %d", h.Len(), n)
		}
		h.Write("and on")
		wantSum(t, "gone on", h.Sum(), sample(n)+"and on")
	}
}

// P1.2: Len tells the text's bytes, at each of them.
func TestLen(t *testing.T) {
	h := sha.New()
	for n := range uint64(200) {
		if h.Len() != n {
			t.Fatalf("Len is %d, not %d", h.Len(), n)
		}
		h.Write("\xff")
	}
	h.Write(sample(1000))
	if h.Len() != 1200 {
		t.Errorf("Len is %d, not 1200", h.Len())
	}
}

// P1.2: a copy has the same text; then it and its origin go their own ways.
func TestCopyGoesItsOwnWay(t *testing.T) {
	for _, n := range edges {
		for _, m := range edges {
			origin := sha.New()
			origin.Write(sample(n))
			copied := origin.Copy()
			if copied == nil || copied == origin {
				t.Fatal("Copy answers no hasher of its own")
			}
			if copied.Len() != uint64(n) {
				t.Errorf("the copy's Len is %d, not %d", copied.Len(), n)
			}
			wantSum(t, "copy", copied.Sum(), sample(n))
			second := copied.Copy()

			copied.Write("c" + sample(m))
			wantSum(t, "origin, the copy gone on", origin.Sum(), sample(n))
			origin.Write("o" + sample(m))
			wantSum(t, "origin", origin.Sum(), sample(n)+"o"+sample(m))
			wantSum(t, "copy gone on", copied.Sum(), sample(n)+"c"+sample(m))
			wantSum(t, "copy of the copy", second.Sum(), sample(n))
			if second.Len() != uint64(n) || origin.Len() != uint64(n+m+1) || copied.Len() != uint64(n+m+1) {
				t.Errorf("Len of %d and %d: %d %d %d", n, m, second.Len(), origin.Len(), copied.Len())
			}
		}
	}
}

// P1.2: a hasher that is none answers nothing, 0, none.
func TestNoHasher(t *testing.T) {
	var none *sha.Hasher
	none.Write("")
	none.Write(sample(100))
	if s := none.Sum(); s != "" {
		t.Errorf("Sum is %x", s)
	}
	if n := none.Len(); n != 0 {
		t.Errorf("Len is %d", n)
	}
	if c := none.Copy(); c != nil {
		t.Error("Copy answers a hasher")
	}
}

// P1.3: a text that comes in two parts, cut at each of its places.
func TestTwoParts(t *testing.T) {
	for _, n := range edges {
		text := sample(n)
		for cut := range n + 1 {
			h := sha.New()
			h.Write(text[:cut])
			h.Write(text[cut:])
			wantSum(t, "in two parts", h.Sum(), text)
		}
	}
}

// P1.3: a text in parts of one size, with everything asked in between.
func TestEqualParts(t *testing.T) {
	text := sample(400)
	for size := 1; size <= 130; size++ {
		h := sha.New()
		for at := 0; at < len(text); at += size {
			end := min(at+size, len(text))
			h.Write(text[at:end])
			h.Write("")
			wantSum(t, "in between", h.Sum(), text[:end])
			if h.Len() != uint64(end) {
				t.Fatalf("Len is %d, not %d", h.Len(), end)
			}
			h.Copy().Write("elsewhere")
		}
		wantSum(t, "in equal parts", h.Sum(), text)
	}
}

// P1.3: parts and questions of any order; the seed is fixed, so that a failure comes again.
func TestAnyParts(t *testing.T) {
	draw := rand.New(rand.NewSource(1))
	for range 300 {
		h, text := sha.New(), ""
		for range draw.Intn(30) {
			switch draw.Intn(4) {
			case 0:
				wantSum(t, "in between", h.Sum(), text)
			case 1:
				if h.Len() != uint64(len(text)) {
					t.Fatalf("Len is %d, not %d", h.Len(), len(text))
				}
			case 2:
				h = h.Copy()
			default:
				part := sample(200)[:draw.Intn(200)]
				h.Write(part)
				text += part
			}
		}
		wantSum(t, "in any parts", h.Sum(), text)
		wantSum(t, "at once", sha.Sum(text), text)
	}
}
