package sha

import (
	"strings"
	"testing"
)

// P1.1: as few noughts as let all be some blocks, and the count in eight bytes, also of texts too long to be tried.
func TestPadding(t *testing.T) {
	for size := range uint64(200) {
		p := padding(size)
		if (size+uint64(len(p)))%blockSize != 0 || len(p) < 9 || len(p) > blockSize+8 {
			t.Errorf("behind %d bytes stand %d", size, len(p))
		}
	}
	examples := []struct {
		size    uint64
		noughts int
		count   string
	}{
		{0, 55, "\x00\x00\x00\x00\x00\x00\x00\x00"},
		{55, 0, "\x00\x00\x00\x00\x00\x00\x01\xb8"},
		{56, 63, "\x00\x00\x00\x00\x00\x00\x01\xc0"},
		{64, 55, "\x00\x00\x00\x00\x00\x00\x02\x00"},
		{1<<31 - 1, 56, "\x00\x00\x00\x03\xff\xff\xff\xf8"},
		{0x0023456789abcdef, 8, "\x01\x1a\x2b\x3c\x4d\x5e\x6f\x78"},
	}
	for _, e := range examples {
		want := "\x80" + strings.Repeat("\x00", e.noughts) + e.count
		if got := padding(e.size); got != want {
			t.Errorf("behind %d bytes stands %x, not %x", e.size, got, want)
		}
	}
}
