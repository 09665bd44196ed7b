package proof

import (
	"sextant/dom"
	"sextant/layout"
)

type place struct{ digest string }

// pair is the lower kid of a place and the higher one.
type pair [2]place

func (kids pair) parent() place {
	return place{dom.Hash("node", kids[0].digest, kids[1].digest)}
}

// known are the places of one level whose digests are known, by their numbers.
type known map[uint64]place

// shown has of each of the leaves the element that is handed in for it.
func shown(leaves []uint64, elements []string) known {
	level := make(known, len(leaves))
	for i, leaf := range leaves {
		level[leaf] = place{dom.Hash("leaf", elements[i])}
	}
	return level
}

// root asks next for as many places as are needed, level by level.
func (level known) root(needs [][]uint64, next func() place) string {
	for _, needed := range needs {
		for _, k := range needed {
			level[k] = next()
		}
		level = level.parents()
	}
	return level[0].digest
}

// parents has the sibling of each place beside it, as what is needed was taken ahead.
func (level known) parents() known {
	var kids pair
	higher := make(known, len(level)/len(kids))
	for k, lower := range level {
		sibling := layout.Sibling(k)
		if sibling < k {
			continue // the parent comes when the sibling does
		}
		kids = pair{lower, level[sibling]}
		higher[layout.Parent(k)] = kids.parent()
	}
	return higher
}
