package part_test

import (
	"math"
	"math/rand"
	"slices"
	"testing"

	"sextant/api"
	"sextant/part"
)

// P15.1: the chapter's examples.
func TestExamples(t *testing.T) {
	for _, row := range []struct {
		l     []api.Part
		check api.Errno
		total uint64
	}{
		{[]api.Part{{Root: r, Weight: 3}, {Root: r, Weight: 4}}, api.OK, 7},
		{nil, api.ErrArg, 0},
		{[]api.Part{{Root: r}}, api.ErrArg, 0},
		{[]api.Part{{Root: r[1:], Weight: 1}}, api.ErrArg, 0},
		{[]api.Part{{Root: r, Weight: math.MaxUint64}}, api.OK, math.MaxUint64},
		{[]api.Part{{Root: r, Weight: math.MaxUint64}, {Root: r, Weight: 1}}, api.ErrArg, 0},
	} {
		if e, total := part.Check(row.l), part.Total(row.l); e != row.check || total != row.total {
			t.Errorf("of %v: %v, %d, not %v, %d", row.l, e, total, row.check, row.total)
		}
	}
}

// P15.1: each weight of one participant, and each of two.
func TestWeights(t *testing.T) {
	for _, a := range numbers()[1:] {
		wantList(t, weighing(a))
		for _, b := range numbers()[1:] {
			if a > math.MaxUint64-b {
				wantNone(t, weighing(a, b))
			} else {
				wantList(t, weighing(a, b))
			}
		}
	}
}

// P15.1: weights that are together just as much as may be, and by one more than that, in any order.
func TestAsMuchAsMayBe(t *testing.T) {
	for _, weights := range [][]uint64{
		{math.MaxUint64 - 1, 1},
		{math.MaxUint64 - 2, 1, 1},
		{1 << 63, 1<<63 - 1},
		{1 << 63, 1 << 62, 1<<62 - 1},
		{1<<32 - 1, 1<<32 - 1, math.MaxUint64 - 2*(1<<32-1)},
		{math.MaxUint64 / 3, math.MaxUint64 / 3, math.MaxUint64 / 3},
		{math.MaxUint64 / 5, math.MaxUint64 / 5, math.MaxUint64 / 5, math.MaxUint64 / 5, math.MaxUint64 / 5},
	} {
		for range weights {
			l := weighing(weights...)
			if got := part.Total(l); got != math.MaxUint64 {
				t.Errorf("Total of %v is %d", weights, got)
			}
			wantList(t, l)
			for i := range l {
				wantNone(t, with(l, i, func(p *api.Part) { p.Weight++ }))
			}
			wantNone(t, append(weighing(1), l...))
			wantNone(t, append(slices.Clone(l), weighing(1)...))
			weights = append(weights[1:], weights[0])
		}
	}
}

// P15.1: weights that would be few, or none, if they ran over, once or more often.
func TestRunOver(t *testing.T) {
	for _, weights := range [][]uint64{
		{math.MaxUint64, 2},
		{math.MaxUint64, 6},
		{1 << 63, 1 << 63},
		{1 << 63, 1 << 63, 5},
		{5, 1 << 63, 1 << 63},
		{1 << 63, 5, 1 << 63},
		{math.MaxUint64, 1, math.MaxUint64},
		{math.MaxUint64, 1, math.MaxUint64, 1},
		{math.MaxUint64, 1, 7, math.MaxUint64, 1, 7},
		{math.MaxUint64, math.MaxUint64, 2, 5},
		{math.MaxUint64, math.MaxUint64, math.MaxUint64, 3},
		{1 << 62, 1 << 62, 1 << 62, 1 << 62},
		slices.Repeat([]uint64{1 << 61}, 8),
		slices.Repeat([]uint64{1 << 56}, 256),
		slices.Repeat([]uint64{math.MaxUint64}, 256),
		slices.Repeat([]uint64{math.MaxUint64}, 257),
		slices.Repeat([]uint64{1 << 48}, 65536),
		slices.Repeat([]uint64{1<<48 + 1}, 65536),
		slices.Repeat([]uint64{math.MaxUint64}, 65536),
	} {
		wantNone(t, weighing(weights...))
	}
	wantWeight(t, weighing(slices.Repeat([]uint64{1 << 48}, 65535)...))
	wantWeight(t, weighing(slices.Repeat([]uint64{1<<48 - 1}, 65536)...))
}

// P15.1, P15.2, R4: no participants, whatever memory lies behind.
func TestNoParticipants(t *testing.T) {
	for _, l := range [][]api.Part{nil, {}, make([]api.Part, 0, 8), weighing(1, 2)[:0]} {
		wantNone(t, l)
	}
}

// P15.1, P15.2: as many as may be, and more.
func TestHowMany(t *testing.T) {
	most := weighing(slices.Repeat([]uint64{3}, api.MaxParts)...)
	for _, n := range []int{1, 2, 255, 256, 257, api.MaxParts - 1, api.MaxParts} {
		wantWeight(t, most[:n])
		if got := part.Total(most[:n]); got != 3*uint64(n) {
			t.Errorf("Total of %d participants is %d", n, got)
		}
	}
	wantNone(t, append(most, most[0]))
	for _, n := range []int{65537, 65538, 131072, 131073, 1<<20 + 1} {
		wantNone(t, same(n, api.Part{Root: r, Weight: 1}))
		wantNone(t, make([]api.Part, n))
	}
}

// P15.1, P15.2: roots that may not be, at each place.
func TestWrongRoots(t *testing.T) {
	l := weighing(5, 1, 4, 9)
	for _, root := range noRoots() {
		wantNone(t, []api.Part{{Root: root, Weight: 1, Life: 5, Keys: 2}})
		for i := range l {
			wantNone(t, with(l, i, func(p *api.Part) { p.Root = root }))
		}
	}
	for _, root := range roots() {
		wantList(t, []api.Part{{Root: root, Weight: 1}})
		for i := range l {
			wantList(t, with(l, i, func(p *api.Part) { p.Root = root }))
		}
	}
}

// P15.1, P15.2: a weight of 0 at each place, whatever the other ones are.
func TestNoWeight(t *testing.T) {
	for _, l := range [][]api.Part{weighing(5), weighing(5, 1), weighing(1, 1, 1, 1, 1), weighing(math.MaxUint64, 1), weighing(slices.Repeat([]uint64{7}, 300)...)} {
		for i := range l {
			wantNone(t, with(l, i, func(p *api.Part) { p.Weight = 0 }))
			wantNone(t, slices.Insert(slices.Clone(l), i, api.Part{Root: r}))
		}
		wantNone(t, append(slices.Clone(l), api.Part{Root: r}))
		wantNone(t, append(slices.Clone(l), api.Part{}))
	}
}

// P15.1: one wrong participant among as many as may be.
func TestOneWrongAmongMany(t *testing.T) {
	l := weighing(slices.Repeat([]uint64{1}, api.MaxParts)...)
	for _, i := range []int{0, 1, 255, 256, 32767, 32768, api.MaxParts - 2, api.MaxParts - 1} {
		wantNone(t, with(l, i, func(p *api.Part) { p.Weight = 0 }))
		wantNone(t, with(l, i, func(p *api.Part) { p.Root += "\x00" }))
		wantNone(t, with(l, i, func(p *api.Part) { p.Root = "" }))
		wantNone(t, with(l, i, func(p *api.Part) { p.Weight = math.MaxUint64 }))
		wantWeight(t, with(l, i, func(p *api.Part) { p.Weight = math.MaxUint64 - 65535 }))
	}
}

// P15.1: a list may be whatever the rounds are, 0 among them, and whether participants are alike or not.
func TestWhatIsNotAsked(t *testing.T) {
	for _, first := range numbers() {
		for _, other := range numbers() {
			wantList(t, []api.Part{{Root: r, Weight: 1, First: first, Life: other}, {Root: r, Weight: 1, Life: first, Keys: other}, {Root: r, Weight: 1, Keys: first, First: other}})
		}
	}
	for _, n := range []int{2, 3, 17, 64} {
		wantList(t, same(n, api.Part{Root: noughts, Weight: 9, First: 100, Life: 10, Keys: 4}))
	}
}

// P15.1: drawn lists, some of whose weights run over.
func TestDrawnWeights(t *testing.T) {
	draw := rand.New(rand.NewSource(15))
	over := 0
	for range 4000 {
		weights := make([]uint64, 1+draw.Intn(12))
		for i := range weights {
			weights[i] = max(1, draw.Uint64()>>draw.Intn(8))
		}
		l := weighing(weights...)
		if _, may := refTotal(l); !may {
			over++
			wantNone(t, l)
			continue
		}
		wantList(t, l)
	}
	if over < 500 || over > 3500 {
		t.Errorf("%d of 4000 lists run over", over)
	}
}

// P15.3: the weight of a list that is cut in two is that of both parts together.
func TestCutInTwo(t *testing.T) {
	draw := rand.New(rand.NewSource(16))
	lists := [][]api.Part{weighing(math.MaxUint64-1, 1), weighing(1<<63, 1<<62, 1<<62-1), weighing(1, 2, 4, 8, 16, 32)}
	for range 50 {
		lists = append(lists, drawnList(draw, 2+draw.Intn(60)))
	}
	for _, l := range lists {
		for i := 1; i < len(l); i++ {
			if whole, ahead, behind := part.Total(l), part.Total(l[:i]), part.Total(l[i:]); whole != ahead+behind || ahead == 0 || behind == 0 || ahead > whole {
				t.Fatalf("Total is %d, cut at %d it is %d and %d", whole, i, ahead, behind)
			}
		}
	}
}
