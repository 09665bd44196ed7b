package tree_test

import (
	"crypto/sha256"
	"encoding/binary"
	"math"
	"slices"
	"strconv"
	"strings"
	"testing"

	"sextant/api"
	"sextant/tree"
)

// picture are the digests of all places of a tree, level by level, from the leaves on.
type picture [][]string

func (p picture) root() string { return p[len(p)-1][0] }

func (p picture) same(other picture) bool {
	return slices.EqualFunc(p, other, func(a, b []string) bool { return slices.Equal(a, b) })
}

// hash is that of a tag and texts, put together by the library's own means.
func hash(tag string, texts ...string) string {
	frame := append([]byte{byte(len(tag))}, tag...)
	for _, text := range texts {
		frame = binary.BigEndian.AppendUint64(frame, uint64(len(text)))
		frame = append(frame, text...)
	}
	sum := sha256.Sum256(frame)
	return string(sum[:])
}

// depthOf is the least depth whose leaves are enough.
func depthOf(n int) int {
	depth := 0
	for 1<<depth < n {
		depth++
	}
	return depth
}

// elementAt is the number of the element that stands at a leaf: its bits, from the lowest on, one by one.
func elementAt(leaf, depth int) int {
	i := 0
	for range depth {
		i = i*2 + leaf%2
		leaf /= 2
	}
	return i
}

// pictureOf is the reference: all digests, by the chapter's words.
func pictureOf(elements []string) picture {
	depth := depthOf(len(elements))
	level := make([]string, 1<<depth)
	for k := range level {
		if i := elementAt(k, depth); i < len(elements) {
			level[k] = hash("leaf", elements[i])
		} else {
			level[k] = hash("none")
		}
	}
	all := picture{level}
	for len(level) > 1 {
		higher := make([]string, len(level)/2)
		for k := range higher {
			higher[k] = hash("node", level[2*k], level[2*k+1])
		}
		all = append(all, higher)
		level = higher
	}
	return all
}

// shown is the picture that a tree itself tells.
func shown(t *testing.T, x *tree.Tree) picture {
	t.Helper()
	all := make(picture, x.Depth()+1)
	for level := range all {
		for k := range uint64(1) << (x.Depth() - level) {
			digest, is := x.At(level, k)
			if !is || len(digest) != api.DigestSize {
				t.Fatalf("At(%d, %d) of %d elements is %x, %v", level, k, x.Len(), digest, is)
			}
			all[level] = append(all[level], digest)
		}
	}
	return all
}

func built(t *testing.T, elements ...string) *tree.Tree {
	t.Helper()
	x, e := tree.Build(elements)
	if e != api.OK || x == nil {
		t.Fatalf("Build of %d elements is %v, %v", len(elements), x, e)
	}
	return x
}

func with(t *testing.T, x *tree.Tree, i uint64, element string) *tree.Tree {
	t.Helper()
	y, e := x.With(i, element)
	if e != api.OK || y == nil {
		t.Fatalf("With(%d, %.40q) of %d elements is %v, %v", i, element, x.Len(), y, e)
	}
	return y
}

func wantTree(t *testing.T, x *tree.Tree, elements []string) {
	t.Helper()
	wantPicture(t, x, len(elements), pictureOf(elements))
}

// wantPicture asks all that a tree tells: its root, its depth, how many elements, and the digest of each place.
func wantPicture(t *testing.T, x *tree.Tree, n int, want picture) {
	t.Helper()
	if x.Len() != n || x.Depth() != len(want)-1 {
		t.Fatalf("of %d elements, depth %d, Len is %d, and Depth %d", n, len(want)-1, x.Len(), x.Depth())
	}
	if x.Root() != want.root() {
		t.Errorf("the root of %d elements is %x, not %x", n, x.Root(), want.root())
	}
	got := shown(t, x)
	for level := range want {
		for k := range want[level] {
			if got[level][k] != want[level][k] {
				t.Fatalf("At(%d, %d) of %d elements is %x, not %x", level, k, n, got[level][k], want[level][k])
			}
		}
	}
}

func wantNoPlace(t *testing.T, x *tree.Tree, level int, k uint64) {
	t.Helper()
	if digest, is := x.At(level, k); digest != "" || is {
		t.Errorf("At(%d, %d) of %d elements is %x, %v, not nothing", level, k, x.Len(), digest, is)
	}
}

// wantRefused asks also that the tree stays as it was.
func wantRefused(t *testing.T, x *tree.Tree, i uint64, want api.Errno) {
	t.Helper()
	n, before := x.Len(), shown(t, x)
	if y, e := x.With(i, "x"); y != nil || e != want {
		t.Errorf("With(%d) of %d elements is %v, %v, not nothing, %v", i, n, y, e, want)
	}
	if len(before) > 0 {
		wantPicture(t, x, n, before)
	}
}

// named are so many elements, no two alike.
func named(n int) []string {
	all := make([]string, n)
	for i := range all {
		all[i] = "element " + strconv.Itoa(i)
	}
	return all
}

// lists are the edges: none, one, alike ones, some of no bytes, some that look like digests, some that are long.
func lists() [][]string {
	leaf, none := hash("leaf", "a"), hash("none")
	return [][]string{
		nil, {}, {""}, {"a"}, {"\x00"}, {"", ""}, {"a", "a"}, {"a", ""}, {"", "a"}, {"a", "b"}, {"b", "a"},
		{"", "", ""}, {"a", "a", "a"}, {"a", "b", "a"}, {"a", "", "b"}, {"", "", "", ""}, {"a", "b", "c", "d", "e"},
		{leaf}, {none}, {leaf, none}, {leaf + none, "a"}, {none, none, none}, {hash("node", leaf, none), leaf, none},
		{"leaf"}, {"node", "none", "leaf"}, {"\xff\xfe", "\x80", "\xc3\xa9"},
		{strings.Repeat("p", 55), strings.Repeat("p", 56), strings.Repeat("p", 255), strings.Repeat("p", 256), strings.Repeat("p", 65537)},
		slices.Repeat([]string{""}, 17), slices.Repeat([]string{"a"}, 31), slices.Repeat([]string{"a", "", "b"}, 11),
	}
}

// far are numbers that are far above those of all places and elements, some of which would fit if they were cut.
func far() []uint64 {
	all := []uint64{65535, 65536, 65537, math.MaxUint64, math.MaxUint64 - 1, math.MaxInt64, math.MaxUint32}
	for shift := 17; shift < 64; shift++ {
		all = append(all, 1<<shift, 1<<shift+1)
	}
	return all
}
