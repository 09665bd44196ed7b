package unpack

import "sextant/api"

// Sorts of things.
const (
	number = iota
	binary
	text
	list
	pairs
)

// row is one way to lay things of a sort: by a first byte from first to last, and a number in size bytes behind it;
// a row without such bytes has the number in its first byte, any other one has a single first byte.
// least is the least number that no row ahead, of the same sort, could say.
type row struct {
	sort        int
	first, last byte
	size        int
	least       uint64
}

var rows = [...]row{
	{number, 0x00, 0x7f, 0, 0},
	{number, 0xcc, 0xcc, 1, 1 << 7},
	{number, 0xcd, 0xcd, 2, 1 << 8},
	{number, 0xce, 0xce, 4, 1 << 16},
	{number, 0xcf, 0xcf, 8, 1 << 32},
	{binary, 0xc4, 0xc4, 1, 0},
	{binary, 0xc5, 0xc5, 2, 1 << 8},
	{text, 0xa0, 0xbf, 0, 0},
	{text, 0xd9, 0xd9, 1, 1 << 5},
	{text, 0xda, 0xda, 2, 1 << 8},
	{list, 0x90, 0x9f, 0, 0},
	{list, 0xdc, 0xdc, 2, 1 << 4},
	{pairs, 0x80, 0x8f, 0, 0},
	{pairs, 0xde, 0xde, 2, 1 << 4},
}

// rowOf gives up where the byte begins no thing of that sort, though it may begin one of another sort.
func rowOf(sort int, first byte) row {
	at := 0
search:
	for {
		switch {
		case at == len(rows):
			giveUp(api.ErrForm)
		case rows[at].sort == sort && rows[at].first <= first && first <= rows[at].last:
			break search
		}
		at++
	}
	return rows[at]
}
