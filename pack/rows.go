package pack

// Sorts of things.
const (
	number = iota
	binary
	text
	list
	pairs
)

// Sizes of a number that stands behind a row's first byte: each one has twice the bytes of the one ahead.
const (
	oneByte = 1 << iota
	twoBytes
	fourBytes
	eightBytes
)

// within is the size of a number that stands in the first byte itself.
const within = 0

// row is how numbers of a sort, or lengths, are laid up to the last one that fits.
type row struct {
	sort  int
	last  uint64
	first byte
	size  int
}

// rows of one sort stand the shortest first. No two have a first byte in common, those that hold a number too,
// so no thing's bytes begin another one's; numbers' first bytes rise from row to row, so their bytes do as they do.
var rows = [...]row{
	{number, 1<<7 - 1, 0x00, within},
	{number, 1<<8 - 1, 0xcc, oneByte},
	{number, 1<<16 - 1, 0xcd, twoBytes},
	{number, 1<<32 - 1, 0xce, fourBytes},
	{number, 1<<64 - 1, 0xcf, eightBytes},
	{binary, 1<<8 - 1, 0xc4, oneByte},
	{binary, 1<<16 - 1, 0xc5, twoBytes},
	{text, 1<<5 - 1, 0xa0, within},
	{text, 1<<8 - 1, 0xd9, oneByte},
	{text, 1<<16 - 1, 0xda, twoBytes},
	{list, 1<<4 - 1, 0x90, within},
	{list, 1<<16 - 1, 0xdc, twoBytes},
	{pairs, 1<<4 - 1, 0x80, within},
	{pairs, 1<<16 - 1, 0xde, twoBytes},
}

// shortest is the first row that says n of that sort; ok is false if none does.
func shortest(sort int, n uint64) (r row, ok bool) {
	at := 0
	says := func() bool { return rows[at].sort == sort && n <= rows[at].last }
	for !says() {
		at++
		if at == len(rows) {
			return row{}, false
		}
	}
	return rows[at], true
}

// head lays n alone: what it counts stands behind.
func (r row) head(laid []byte, n uint64) []byte {
	if r.size == within {
		return append(laid, r.first+byte(n))
	}
	laid = append(laid, r.first)
	for left := r.size - 1; left >= 0; left-- {
		laid = append(laid, byte(n>>(8*left)))
	}
	return laid
}
