package part_test

import (
	"encoding/hex"
	"math"
	"math/rand"
	"reflect"
	"slices"
	"strings"
	"testing"

	"sextant/api"
	"sextant/part"
	"sextant/tree"
	"sextant/wire"
)

// P15.2: elements written out.
func TestElementsWrittenOut(t *testing.T) {
	root := strings.Repeat("72", 32)
	l := []api.Part{
		{Root: r, Weight: 300, Life: 2, Keys: 3},
		{Root: r, Weight: 1},
		{Root: r, Weight: math.MaxUint64 / 2, First: 128, Life: 1 << 32, Keys: 64},
	}
	want := []string{
		"84a16b03a16c02a172c420" + root + "a177cd012c",
		"82a172c420" + root + "a17701",
		"85a166cc80a16b40a16ccf0000000100000000a172c420" + root + "a177cf7fffffffffffffff",
	}
	for i, element := range mustElements(t, l) {
		if got := hex.EncodeToString([]byte(element)); got != want[i] {
			t.Errorf("the element %d is %s, not %s", i, got, want[i])
		}
	}
}

// P15.2: roots written out.
func TestRootsWrittenOut(t *testing.T) {
	for _, row := range []struct {
		l    []api.Part
		want string
	}{
		{[]api.Part{{Root: r, Weight: 3}}, "97156a25f688f6aac08159c8f7bb06189fa1617cba44716f9b1f79fa010511d2"},
		{[]api.Part{{Root: r, Weight: 3}, {Root: r, Weight: 4}}, "564ab26358c066841067c5a1b4b26b5f9f46d675a4564e500f1cb500c7d0dc04"},
		{[]api.Part{{Root: r, Weight: 4}, {Root: r, Weight: 3}}, "bdfcd37938f816557c64fea28e68b5fefd242869772f1b89064a68cbd420834f"},
		{[]api.Part{{Root: noughts, Weight: 10, Life: 5, Keys: 2}, {Root: noughts, Weight: 1, Life: 5, Keys: 2}, {Root: noughts, Weight: 4, Life: 5, Keys: 2}}, "d715f149ac98ed2c51e6be41ec66ad5bac8da9e423fa5e37366ded79bcc00afc"},
		{[]api.Part{{Root: highs, Weight: math.MaxUint64, First: 100, Life: 10, Keys: 64}}, "2addcc4387d1e16a794be8ad6185bf866be57d0d68db73c34bca15789f566686"},
	} {
		if got := hex.EncodeToString([]byte(mustRoot(t, row.l))); got != row.want {
			t.Errorf("the root of %d participants is %s, not %s", len(row.l), got, row.want)
		}
	}
}

// P15.2: lists of each small size, and of the sizes at which the tree's depth changes.
func TestSizes(t *testing.T) {
	draw := rand.New(rand.NewSource(17))
	for n := 1; n <= 70; n++ {
		wantList(t, drawnList(draw, n))
	}
	for _, n := range []int{127, 128, 129, 255, 256, 257, 1000} {
		wantList(t, drawnList(draw, n))
	}
}

// P15.2: as many as may be.
func TestAsManyAsMayBe(t *testing.T) {
	l := drawnList(rand.New(rand.NewSource(18)), api.MaxParts)
	wantList(t, l)
	wantList(t, l[:api.MaxParts-1])
}

// P15.2: elements are what wire lays, and reads again; the root is that of their tree.
func TestByLayersBelow(t *testing.T) {
	l := drawnList(rand.New(rand.NewSource(19)), 45)
	all := mustElements(t, l)
	for i, element := range all {
		p, err := wire.ReadPart(element)
		if err != nil || p != l[i] {
			t.Fatalf("the element %d, %x, is read as %x, %d, %d, %d, %d, %v", i, element, p.Root, p.Weight, p.First, p.Life, p.Keys, err)
		}
	}
	built, _ := tree.Build(all)
	if got := mustRoot(t, l); got != built.Root() {
		t.Errorf("the root is %x, not %x", got, built.Root())
	}
}

// P15.2: on each field of each participant, and on how many they are and in which order, the root hangs.
func TestOnWhatTheRootHangs(t *testing.T) {
	l := drawnList(rand.New(rand.NewSource(20)), 9)
	seen := map[string]bool{mustRoot(t, l): true}
	other := func(changed []api.Part) {
		t.Helper()
		root := mustRoot(t, changed)
		if seen[root] {
			t.Errorf("two lists have one root, %x", root)
		}
		seen[root] = true
	}
	for i := range l {
		other(with(l, i, func(p *api.Part) { p.Root = highs }))
		other(with(l, i, func(p *api.Part) { p.Weight++ }))
		other(with(l, i, func(p *api.Part) { p.First++ }))
		other(with(l, i, func(p *api.Part) { p.Life++ }))
		other(with(l, i, func(p *api.Part) { p.Keys++ }))
		other(slices.Delete(slices.Clone(l), i, i+1))
		other(slices.Insert(slices.Clone(l), i, api.Part{Root: noughts, Weight: 1}))
		if i > 0 {
			swapped := slices.Clone(l)
			swapped[0], swapped[i] = l[i], l[0]
			other(swapped)
		}
	}
}

// P15.3: two lists with the same elements are the same: what is another list has other elements.
func TestSameElements(t *testing.T) {
	some := []api.Part{}
	for _, root := range []string{noughts, r} {
		for _, n := range []uint64{0, 1, 128, math.MaxUint64 / 4} {
			some = append(some,
				api.Part{Root: root, Weight: n + 1}, api.Part{Root: root, Weight: 1, First: n},
				api.Part{Root: root, Weight: 1, Life: n}, api.Part{Root: root, Weight: 1, Keys: n},
				api.Part{Root: root, Weight: 1, First: n, Keys: 1}, api.Part{Root: root, Weight: 1, First: 1, Life: n})
		}
	}
	var lists [][]api.Part
	for i, p := range some {
		lists = append(lists, []api.Part{p})
		for _, q := range some[i%5:] {
			lists = append(lists, []api.Part{p, q})
		}
	}
	had := map[string][]api.Part{}
	for _, l := range lists {
		key := hash("elements", mustElements(t, l)...)
		if before, is := had[key]; is && !slices.Equal(before, l) {
			t.Fatalf("%v and %v have the same elements", before, l)
		}
		had[key] = l
	}
}

// R5: what is handed in stays as it was, and so does what was answered, whatever is changed afterwards.
func TestNothingIsShared(t *testing.T) {
	l := weighing(5, 1, 4, 9, 2)
	room := append(slices.Clone(l), api.Part{Root: "behind"})
	handed := room[:len(l)]
	first := mustElements(t, handed)
	root := mustRoot(t, handed)
	if part.Check(handed) != api.OK || part.Total(handed) != 21 || !slices.Equal(handed, l) || room[len(l)].Root != "behind" {
		t.Errorf("what was handed in is %v", room)
	}
	want := slices.Clone(first)
	second := mustElements(t, handed)
	for i := range second {
		second[i] = "changed"
	}
	handed[0] = api.Part{Root: r, Weight: 7}
	if !slices.Equal(first, want) {
		t.Errorf("what was answered is %q, not %q", first, want)
	}
	if got := mustElements(t, l); !slices.Equal(got, want) || mustRoot(t, l) != root {
		t.Errorf("asked again the answer is %q, not %q", got, want)
	}
}

// R6, R1: wrong calls between change nothing, and many at once answer as one does.
func TestAtOnce(t *testing.T) {
	l := weighing(5, 1, 4, 9, 2)
	all, root := mustElements(t, l), mustRoot(t, l)
	done := make(chan bool)
	for range 16 {
		go func() {
			well := true
			for i := range 50 {
				wrong := with(l, i%len(l), func(p *api.Part) { p.Weight = 0 })
				none, e := part.Elements(wrong)
				well = well && e == api.ErrArg && none == nil && part.Total(wrong) == 0
				again, e := part.Elements(l)
				well = well && e == api.OK && reflect.DeepEqual(again, all) && part.Total(l) == 21
				same, e := part.Root(l)
				well = well && e == api.OK && same == root
			}
			done <- well
		}()
	}
	for range 16 {
		if !<-done {
			t.Error("at once other answers come")
		}
	}
}
