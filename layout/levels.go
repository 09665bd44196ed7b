package layout

import (
	"iter"
	"slices"
)

// places are some of one level's.
type places map[uint64]struct{}

func (p places) gather(all []uint64) {
	for _, k := range all {
		p[k] = struct{}{}
	}
}

func (p places) has(k uint64) bool {
	_, there := p[k]
	return there
}

// needed sorts what it tells, as a map has no order. None is told twice: no two places have one sibling.
func (p places) needed() []uint64 {
	var needed []uint64
	for k := range p {
		if sibling := Sibling(k); !p.has(sibling) {
			needed = append(needed, sibling)
		}
	}
	slices.Sort(needed)
	return needed
}

func (p places) parents() []uint64 {
	parents := make([]uint64, 0, len(p))
	for k := range p {
		parents = append(parents, Parent(k))
	}
	return parents
}

// levels tells what is known on each level below the root's. It is one map for all of them, and so no longer a
// level's places when the next one's come.
func levels(leaves []uint64, depth int) iter.Seq[places] {
	return func(yield func(places) bool) {
		known := make(places)
		known.gather(leaves)
		for range depth {
			if !yield(known) {
				return
			}
			parents := known.parents()
			clear(known)
			known.gather(parents)
		}
	}
}
