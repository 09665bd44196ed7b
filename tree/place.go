package tree

import (
	"slices"

	"sextant/dom"
	"sextant/layout"
)

// place never changes once it is made: many trees may have it, and one tree at many leaves.
type place struct {
	digest string
	kids   pair
}

// pair is the lower kid and the higher one; a leaf has neither.
type pair [2]*place

func leaf(element string) *place { return &place{digest: dom.Hash("leaf", element)} }

func node(kids pair) *place {
	return &place{digest: dom.Hash("node", kids[0].digest, kids[1].digest), kids: kids}
}

// side is the kid over which the way leads to the place k, which stands so many levels below the kids.
func side(k uint64, below int) uint64 { return k >> below & 1 }

// leaves has one place for all leaves at which no element stands, as they are alike.
func leaves(elements []string) []*place {
	depth := layout.Depth(len(elements))
	level := slices.Repeat([]*place{{digest: dom.Hash("none")}}, 1<<depth)
	for i, element := range elements {
		level[layout.Leaf(uint64(i), depth)] = leaf(element)
	}
	return level
}

func above(level []*place) []*place {
	var parents []*place
	for kids := range slices.Chunk(level, len(pair{})) {
		parents = append(parents, node(pair(kids)))
	}
	return parents
}
