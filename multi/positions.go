package multi

import (
	"cmp"
	"iter"

	"sextant/layout"
)

type row[N cmp.Ordered] []N

func (r row[N]) rises() bool {
	for i := 1; i < len(r); i++ {
		if r[i-1] >= r[i] {
			return false
		}
	}
	return true
}

func last[E any](list []E) (element E, is bool) {
	if len(list) == 0 {
		return element, false
	}
	return list[len(list)-1], true
}

// stand holds the last one alone against n, as none of those that rise is above it.
func stand(positions []uint64, n int) bool {
	highest, is := last(positions)
	return is && highest < uint64(n) && row[uint64](positions).rises()
}

func leaves(positions []uint64, depth int) []uint64 {
	leaves := make([]uint64, len(positions))
	for i, position := range positions {
		leaves[i] = layout.Leaf(position, depth)
	}
	return leaves
}

// needed tells each place with its level ahead, in the order in which a proof has them.
func needed(positions []uint64, depth int) iter.Seq2[int, uint64] {
	return func(yield func(level int, k uint64) bool) {
		for level, places := range layout.Needs(leaves(positions, depth), depth) {
			for _, k := range places {
				if !yield(level, k) {
					return
				}
			}
		}
	}
}
