// Package sha is layer 1, SHA-256, at once or step by step: see shared/doc/01-sha.md.
package sha

// Hasher keeps no more of its text than the sum needs: New makes it, so that its words are the beginning.
type Hasher struct {
	words
	open [blockSize]byte // its first size%blockSize bytes wait for the rest of their block
	size uint64
}

func Sum(s string) string {
	h := New()
	h.Write(s)
	return h.Sum()
}

func New() *Hasher { return &Hasher{words: beginning} }

func (h *Hasher) Write(s string) {
	if h == nil {
		return
	}
	for len(s) > 0 {
		n := copy(h.open[h.size%blockSize:], s)
		s = s[n:]
		h.size += uint64(n)
		if h.size%blockSize == 0 {
			h.words = h.with(h.open)
		}
	}
}

// Sum pads a copy, since the text may still go on.
func (h *Hasher) Sum() string {
	if h == nil {
		return ""
	}
	padded := *h
	padded.Write(padding(h.size))
	return padded.digest()
}

func (h *Hasher) Len() uint64 {
	if h == nil {
		return 0
	}
	return h.size
}

// Copy shares nothing with its origin, since all that a hasher has are values.
func (h *Hasher) Copy() *Hasher {
	if h == nil {
		return nil
	}
	other := *h
	return &other
}

// padding is asked for by the size alone, so that no text need be at hand.
func padding(size uint64) string {
	const countSize = 8
	noughts := (2*blockSize - countSize - 1 - size%blockSize) % blockSize
	p := make([]byte, 1+noughts, 1+noughts+countSize)
	p[0] = 0x80
	for shift := 56; shift >= 0; shift -= 8 {
		p = append(p, byte(size*8>>shift))
	}
	return string(p)
}

func (v words) digest() string {
	d := make([]byte, 0, 4*len(v))
	for _, w := range v {
		d = append(d, byte(w>>24), byte(w>>16), byte(w>>8), byte(w))
	}
	return string(d)
}
