package part_test

import (
	"crypto/sha256"
	"encoding/binary"
	"math"
	"math/big"
	"math/rand"
	"slices"
	"strings"
	"testing"

	"sextant/api"
	"sextant/part"
)

var (
	noughts = strings.Repeat("\x00", 32)
	highs   = strings.Repeat("\xff", 32)
	wide    = strings.Repeat("ā", 16) // 16 characters, 32 bytes
	r       = strings.Repeat("r", 32)
)

// roots are some that are unlike, the least one and the greatest one among them.
func roots() []string { return []string{noughts, highs, wide, r, hash("root")} }

// noRoots have not 32 bytes, 32 characters some of them.
func noRoots() []string {
	all := []string{strings.Repeat("ā", 32), strings.Repeat("a", 32+256), strings.Repeat("a", 1<<16+32)}
	for size := range 100 {
		if size != 32 {
			all = append(all, strings.Repeat("\x00", size), strings.Repeat("r", size))
		}
	}
	return all
}

// numbers stand at the edges of how they are laid.
func numbers() []uint64 {
	return []uint64{0, 1, 127, 128, 255, 256, 1<<16 - 1, 1 << 16, 1<<32 - 1, 1 << 32, 1 << 63, math.MaxUint64 - 1, math.MaxUint64}
}

// weighing is a list of participants that weigh so much, each with another root.
func weighing(weights ...uint64) []api.Part {
	var l []api.Part
	for i, weight := range weights {
		l = append(l, api.Part{Root: numbered(i), Weight: weight, First: uint64(i), Life: 5, Keys: 2})
	}
	return l
}

func numbered(i int) string { return noughts[8:] + eight(uint64(i)) }

// same is a list of so many alike ones.
func same(n int, p api.Part) []api.Part { return slices.Repeat([]api.Part{p}, n) }

// with is a list of its own, whose i-th participant is changed.
func with(l []api.Part, i int, change func(p *api.Part)) []api.Part {
	l = slices.Clone(l)
	change(&l[i])
	return l
}

// drawnList is one that may be, of so many.
func drawnList(draw *rand.Rand, n int) []api.Part {
	var l []api.Part
	for range n {
		root := make([]byte, 32)
		draw.Read(root)
		number := func() uint64 { return draw.Uint64() >> draw.Intn(65) }
		weight := draw.Uint64()>>(20+draw.Intn(44)) + 1
		l = append(l, api.Part{Root: string(root), Weight: weight, First: number(), Life: number(), Keys: number()})
	}
	return l
}

// refTotal is by numbers without bounds; false, if the list may not be.
func refTotal(l []api.Part) (uint64, bool) {
	total, may := new(big.Int), len(l) >= 1 && len(l) <= 65536
	for _, p := range l {
		may = may && len(p.Root) == 32 && p.Weight >= 1
		total.Add(total, new(big.Int).SetUint64(p.Weight))
	}
	if !may || !total.IsUint64() {
		return 0, false
	}
	return total.Uint64(), true
}

// hash is the library's sum of a tag's frame.
func hash(tag string, parts ...string) string {
	frame := append([]byte{byte(len(tag))}, tag...)
	for _, part := range parts {
		frame = binary.BigEndian.AppendUint64(frame, uint64(len(part)))
		frame = append(frame, part...)
	}
	sum := sha256.Sum256(frame)
	return string(sum[:])
}

func eight(n uint64) string { return string(binary.BigEndian.AppendUint64(nil, n)) }

// laid is a number's bytes by chapter 5.
func laid(n uint64) string {
	all := eight(n)
	switch {
	case n < 1<<7:
		return all[7:]
	case n < 1<<8:
		return "\xcc" + all[7:]
	case n < 1<<16:
		return "\xcd" + all[6:]
	case n < 1<<32:
		return "\xce" + all[4:]
	}
	return "\xcf" + all
}

// element is a participant's bytes by chapter 7: a map of the fields that are not zero, the root never left out.
func element(p api.Part) string {
	pairs, all := byte(0x81), ""
	number := func(key string, n uint64) {
		if n != 0 {
			pairs++
			all += "\xa1" + key + laid(n)
		}
	}
	number("f", p.First)
	number("k", p.Keys)
	number("l", p.Life)
	all += "\xa1r\xc4\x20" + p.Root
	number("w", p.Weight)
	return string([]byte{pairs}) + all
}

func elements(l []api.Part) []string {
	var all []string
	for _, p := range l {
		all = append(all, element(p))
	}
	return all
}

// rootOf is chapter 9's, from above: the elements whose numbers end with a bit stand below that kid.
func rootOf(elements []string) string {
	depth := 0
	for 1<<depth < len(elements) {
		depth++
	}
	var below func(first, step, depth int) string
	below = func(first, step, depth int) string {
		switch {
		case depth > 0:
			return hash("node", below(first, 2*step, depth-1), below(first+step, 2*step, depth-1))
		case first < len(elements):
			return hash("leaf", elements[first])
		}
		return hash("none")
	}
	return below(0, 1, depth)
}

// wantList holds all four calls against the reference, of a list that may be.
func wantList(t *testing.T, l []api.Part) {
	t.Helper()
	wantWeight(t, l)
	all := elements(l)
	wantElements(t, l, all)
	if got, want := mustRoot(t, l), rootOf(all); got != want {
		t.Fatalf("Root of %d participants is %x, not %x", len(l), got, want)
	}
}

func wantElements(t *testing.T, l []api.Part, want []string) {
	t.Helper()
	all := mustElements(t, l)
	if len(all) != len(want) {
		t.Fatalf("Elements of %d participants are %d", len(l), len(all))
	}
	for i, element := range all {
		if element != want[i] {
			t.Fatalf("of %d participants the element %d is %x, not %x", len(l), i, element, want[i])
		}
	}
}

// wantWeight holds Check and Total alone, which is quicker.
func wantWeight(t *testing.T, l []api.Part) {
	t.Helper()
	want, may := refTotal(l)
	if !may {
		t.Fatalf("the test's own reference says that %d participants may not be", len(l))
	}
	if e := part.Check(l); e != api.OK {
		t.Fatalf("Check of %d participants is %v, not OK", len(l), e)
	}
	if got := part.Total(l); got != want {
		t.Fatalf("Total of %d participants is %d, not %d", len(l), got, want)
	}
}

// wantNone holds all four calls of a list that may not be.
func wantNone(t *testing.T, l []api.Part) {
	t.Helper()
	if _, may := refTotal(l); may {
		t.Fatalf("the test's own reference says that %d participants may be", len(l))
	}
	if e := part.Check(l); e != api.ErrArg {
		t.Fatalf("Check of %d participants is %v, not ErrArg", len(l), e)
	}
	if got := part.Total(l); got != 0 {
		t.Fatalf("Total of %d participants is %d, not 0", len(l), got)
	}
	if got, e := part.Elements(l); e != api.ErrArg || len(got) != 0 {
		t.Fatalf("Elements of %d participants are %v, %d elements, not ErrArg, none", len(l), e, len(got))
	}
	if got, e := part.Root(l); e != api.ErrArg || got != "" {
		t.Fatalf("Root of %d participants is %v, %x, not ErrArg, nothing", len(l), e, got)
	}
}

// mustRoot is the root of a list that may be.
func mustRoot(t *testing.T, l []api.Part) string {
	t.Helper()
	root, e := part.Root(l)
	if e != api.OK {
		t.Fatalf("Root of %d participants is %v", len(l), e)
	}
	return root
}

func mustElements(t *testing.T, l []api.Part) []string {
	t.Helper()
	all, e := part.Elements(l)
	if e != api.OK {
		t.Fatalf("Elements of %d participants is %v", len(l), e)
	}
	return all
}
