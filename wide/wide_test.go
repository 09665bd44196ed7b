package wide_test

import (
	"math"
	"math/big"
	"math/rand"
	"testing"

	"sextant/wide"
)

const top = math.MaxUint64

// edges are the limbs by which carries and borrows go over, or don't.
var edges = []uint64{0, 1, 1 << 63, top}

// shifts are the sizes at which a move ends within a limb, at one's end, at the number's end, and far behind it.
var shifts = []uint{0, 1, 2, 31, 32, 62, 63, 64, 65, 66, 127, 128, 129, 191, 192, 193, 254, 255, 256, 257, 319, 320, 511, 512, 513, 1000, 1 << 16, math.MaxInt32, math.MaxUint32, math.MaxInt, math.MaxInt + 1, math.MaxUint - 64, math.MaxUint - 63, math.MaxUint - 1, math.MaxUint}

// bigOf is a number's value, by means that share nothing with the package.
func bigOf(limbs ...uint64) *big.Int {
	all := new(big.Int)
	for i := len(limbs) - 1; i >= 0; i-- {
		all.Lsh(all, 64)
		all.Or(all, new(big.Int).SetUint64(limbs[i]))
	}
	return all
}

func big256(a wide.U256) *big.Int { return bigOf(a[:]...) }

func big512(a wide.U512) *big.Int { return bigOf(a[:]...) }

func power(bits int) *big.Int { return new(big.Int).Lsh(big.NewInt(1), uint(bits)) }

// lowLimbs fills the limbs from the lowest one on, and tells whether the value does not fit; a value below 0 is told as itself and the power.
func lowLimbs(value *big.Int, limbs []uint64) (over bool) {
	size := power(64 * len(limbs))
	rest := new(big.Int).Mod(value, size)
	over = rest.Cmp(value) != 0
	for i := range limbs {
		limbs[i] = new(big.Int).And(rest, new(big.Int).SetUint64(top)).Uint64()
		rest.Rsh(rest, 64)
	}
	return over
}

func low256(value *big.Int) (a wide.U256, over bool) {
	over = lowLimbs(value, a[:])
	return a, over
}

func low512(value *big.Int) (a wide.U512, over bool) {
	over = lowLimbs(value, a[:])
	return a, over
}

// edged256 are all numbers whose limbs are edges.
func edged256() []wide.U256 {
	var all []wide.U256
	for _, x := range edges {
		for _, y := range edges {
			for _, z := range edges {
				for _, w := range edges {
					all = append(all, wide.U256{x, y, z, w})
				}
			}
		}
	}
	return all
}

// anyLimb is an edge, one beside an edge, or one of any size.
func anyLimb(draw *rand.Rand) uint64 {
	switch draw.Intn(4) {
	case 0:
		return edges[draw.Intn(len(edges))]
	case 1:
		return edges[draw.Intn(len(edges))] + uint64(draw.Intn(5)) - 2
	case 2:
		return draw.Uint64() >> draw.Intn(64)
	}
	return draw.Uint64()
}

// any256 has any number of limbs that are not 0.
func any256(draw *rand.Rand) (a wide.U256) {
	for i := range draw.Intn(len(a) + 1) {
		a[i] = anyLimb(draw)
	}
	return a
}

func any512(draw *rand.Rand) (a wide.U512) {
	for i := range draw.Intn(len(a) + 1) {
		a[i] = anyLimb(draw)
	}
	return a
}

// numbers256 are all the edged ones and some others; the seed is fixed, so that a failure comes again.
func numbers256(seed int64, others int) []wide.U256 {
	all := edged256()
	draw := rand.New(rand.NewSource(seed))
	for range others {
		all = append(all, any256(draw))
	}
	return all
}

// pairs256 hands over each of the edged ones with each, and others with others.
func pairs256(seed int64, others int, ask func(a, b wide.U256)) {
	edged := edged256()
	for _, a := range edged {
		for _, b := range edged {
			ask(a, b)
		}
	}
	draw := rand.New(rand.NewSource(seed))
	for range others {
		ask(any256(draw), any256(draw))
		ask(any256(draw), edged[draw.Intn(len(edged))])
		ask(edged[draw.Intn(len(edged))], any256(draw))
	}
}

func wantSums(t *testing.T, a, b wide.U256) {
	t.Helper()
	x, y := big256(a), big256(b)
	want, wantOver := low256(new(big.Int).Add(x, y))
	if got, over := a.Add(b); got != want || over != wantOver {
		t.Fatalf("%x and %x are %x, %v, not %x, %v", a, b, got, over, want, wantOver)
	}
	want, wantOver = low256(new(big.Int).Sub(x, y))
	if got, over := a.Sub(b); got != want || over != wantOver {
		t.Fatalf("%x less %x is %x, %v, not %x, %v", a, b, got, over, want, wantOver)
	}
}

func wantSum512(t *testing.T, a, b wide.U512) {
	t.Helper()
	want, wantOver := low512(new(big.Int).Add(big512(a), big512(b)))
	if got, over := a.Add(b); got != want || over != wantOver {
		t.Fatalf("%x and %x are %x, %v, not %x, %v", a, b, got, over, want, wantOver)
	}
}

func wantProduct(t *testing.T, a, b wide.U256) {
	t.Helper()
	want, over := low512(new(big.Int).Mul(big256(a), big256(b)))
	if got := a.Mul(b); got != want || over {
		t.Fatalf("%x times %x is %x, not %x", a, b, got, want)
	}
}

func wantQuotient(t *testing.T, a, b wide.U256) {
	t.Helper()
	q, r, over := a.DivMod(b)
	if b == (wide.U256{}) {
		if q != b || r != b || !over {
			t.Fatalf("%x by 0 is %x, %x, %v", a, q, r, over)
		}
		return
	}
	x, y := new(big.Int).QuoRem(big256(a), big256(b), new(big.Int))
	wantQ, _ := low256(x)
	wantR, _ := low256(y)
	if q != wantQ || r != wantR || over {
		t.Fatalf("%x by %x is %x, rest %x, %v, not %x, rest %x", a, b, q, r, over, wantQ, wantR)
	}
}

func wantQuotient128(t *testing.T, a wide.U128, b uint64) {
	t.Helper()
	q, r, over := wide.Div128(a, b)
	if b == 0 {
		if q != (wide.U128{}) || r != 0 || !over {
			t.Fatalf("%x by 0 is %x, %x, %v", a, q, r, over)
		}
		return
	}
	x, y := new(big.Int).QuoRem(bigOf(a[:]...), bigOf(b), new(big.Int))
	var wantQ wide.U128
	lowLimbs(x, wantQ[:])
	if q != wantQ || r != y.Uint64() || over {
		t.Fatalf("%x by %x is %x, rest %x, %v, not %x, rest %x", a, b, q, r, over, wantQ, y)
	}
}

func wantMoved(t *testing.T, a wide.U256, n uint) {
	t.Helper()
	by := min(n, 600) // nothing is left of 256 bits either way, and no number of 2^64 bits is made
	want, wantOver := low256(new(big.Int).Lsh(big256(a), by))
	if got, over := a.Shl(n); got != want || over != wantOver {
		t.Fatalf("%x up by %d is %x, %v, not %x, %v", a, n, got, over, want, wantOver)
	}
	kept := new(big.Int).Rsh(big256(a), by)
	want, _ = low256(kept)
	wantOver = kept.Lsh(kept, by).Cmp(big256(a)) != 0
	if got, over := a.Shr(n); got != want || over != wantOver {
		t.Fatalf("%x down by %d is %x, %v, not %x, %v", a, n, got, over, want, wantOver)
	}
}

// P4.1, P4.2 and P4.3: the chapter's examples.
func TestExamples(t *testing.T) {
	product := wide.Mul64(1<<63, 6)
	if product != (wide.U128{0, 3}) {
		t.Errorf("2^63 times 6 is %x", product)
	}
	if q, r, over := wide.Div128(product, 5); q != (wide.U128{11068046444225730969}) || r != 3 || over {
		t.Errorf("that by 5 is %d, rest %d, %v", q, r, over)
	}
	if got, over := (wide.U256{}).Sub(wide.U256{1}); got != (wide.U256{top, top, top, top}) || !over {
		t.Errorf("0 less 1 is %x, %v", got, over)
	}
	if got, over := (wide.U256{3}).Shl(255); got != (wide.U256{0, 0, 0, 1 << 63}) || !over {
		t.Errorf("3 up by 255 is %x, %v", got, over)
	}
}

// P4.1: sums and differences of 256 bits, with and without over.
func TestAddAndSub(t *testing.T) {
	pairs256(1, 20000, func(a, b wide.U256) { wantSums(t, a, b) })
}

// P4.1: a carry or a borrow that begins at any limb goes over all those above it that pass it on, and no further.
func TestCarriesGoOverAllLimbs(t *testing.T) {
	for from := range 4 {
		for to := from; to <= 4; to++ {
			var run, one, sum wide.U256
			for i := from; i < to; i++ {
				run[i] = top
			}
			one[from] = 1
			if to > from && to < 4 {
				sum[to] = 1
			} else if to == from {
				sum = one
			}
			wantOver := to == 4
			if got, over := run.Add(one); got != sum || over != wantOver {
				t.Errorf("%x and %x are %x, %v", run, one, got, over)
			}
			if got, over := one.Add(run); got != sum || over != wantOver {
				t.Errorf("%x and %x are %x, %v", one, run, got, over)
			}
			if got, over := sum.Sub(one); got != run || over != wantOver {
				t.Errorf("%x less %x is %x, %v", sum, one, got, over)
			}
		}
	}
}

// P4.1: sums of 512 bits, with and without over; each run of limbs passes a carry on.
func TestAdd512(t *testing.T) {
	for from := range 8 {
		for to := from; to <= 8; to++ {
			var run, one wide.U512
			for i := from; i < to; i++ {
				run[i] = top
			}
			one[from] = 1
			wantSum512(t, run, one)
			wantSum512(t, one, run)
			wantSum512(t, run, run)
		}
	}
	draw := rand.New(rand.NewSource(2))
	for range 50000 {
		var a, b wide.U512
		for i := range a {
			a[i], b[i] = edges[draw.Intn(len(edges))], edges[draw.Intn(len(edges))]
		}
		wantSum512(t, a, b)
		wantSum512(t, any512(draw), any512(draw))
		wantSum512(t, a, any512(draw))
	}
	most := wide.U512{top, top, top, top, top, top, top, top}
	if got, over := most.Add(wide.U512{1}); got != (wide.U512{}) || !over {
		t.Errorf("2^512 is %x, %v", got, over)
	}
	if got, over := most.Add(wide.U512{}); got != most || over {
		t.Errorf("2^512 - 1 and 0 are %x, %v", got, over)
	}
}

// P4.1: products of one limb each.
func TestMul64(t *testing.T) {
	ask := func(a, b uint64) {
		t.Helper()
		var want wide.U128
		over := lowLimbs(new(big.Int).Mul(bigOf(a), bigOf(b)), want[:])
		if got := wide.Mul64(a, b); got != want || over {
			t.Fatalf("%x times %x is %x, not %x", a, b, got, want)
		}
	}
	for _, a := range edges {
		for _, b := range edges {
			ask(a, b)
		}
	}
	draw := rand.New(rand.NewSource(3))
	for range 20000 {
		ask(anyLimb(draw), anyLimb(draw))
	}
	if got := wide.Mul64(top, top); got != (wide.U128{1, top - 1}) {
		t.Errorf("the greatest product is %x", got)
	}
}

// P4.1: products, those of the greatest numbers among them.
func TestMul(t *testing.T) {
	pairs256(4, 20000, func(a, b wide.U256) { wantProduct(t, a, b) })
	most := wide.U256{top, top, top, top}
	if got := most.Mul(most); got != (wide.U512{1, 0, 0, 0, top - 1, top, top, top}) {
		t.Errorf("the greatest product is %x", got)
	}
	for i := range 4 {
		for j := range 4 {
			var a, b wide.U256
			var want wide.U512
			a[i], b[j] = top, top
			want[i+j], want[i+j+1] = 1, top-1
			if got := a.Mul(b); got != want {
				t.Errorf("%x times %x is %x", a, b, got)
			}
		}
	}
}

// P4.2: quotients of two limbs by one, by 0 among them.
func TestDiv128(t *testing.T) {
	for _, x := range edges {
		for _, y := range edges {
			for _, b := range []uint64{0, 1, 2, 3, 5, 10, 1<<32 - 1, 1 << 32, 1<<32 + 1, 1<<63 - 1, 1 << 63, 1<<63 + 1, top - 1, top} {
				wantQuotient128(t, wide.U128{x, y}, b)
			}
		}
	}
	draw := rand.New(rand.NewSource(5))
	for range 50000 {
		wantQuotient128(t, wide.U128{anyLimb(draw), anyLimb(draw)}, anyLimb(draw))
	}
	for range 20000 { // the upper limb is the divisor, or beside it
		b := anyLimb(draw)
		for _, high := range []uint64{b - 1, b, b + 1} {
			wantQuotient128(t, wide.U128{anyLimb(draw), high}, b)
		}
	}
}

// P4.2: quotients by 0, by 1, by one limb and by all, and by numbers above the one that is divided.
func TestDivMod(t *testing.T) {
	pairs256(6, 50000, func(a, b wide.U256) { wantQuotient(t, a, b) })
	draw := rand.New(rand.NewSource(7))
	for _, a := range numbers256(8, 2000) {
		wantQuotient(t, a, wide.U256{})
		if q, r, over := a.DivMod(wide.U256{1}); q != a || r != (wide.U256{}) || over {
			t.Fatalf("%x by 1 is %x, rest %x, %v", a, q, r, over)
		}
		for limbs := 1; limbs <= 4; limbs++ {
			var b wide.U256
			for i := range limbs {
				b[i] = anyLimb(draw)
			}
			wantQuotient(t, a, b)
			b[limbs-1] |= 1
			wantQuotient(t, a, b)
		}
		if more, over := a.Add(wide.U256{1}); !over {
			if q, r, over := a.DivMod(more); q != (wide.U256{}) || r != a || over {
				t.Fatalf("%x by one more is %x, rest %x, %v", a, q, r, over)
			}
		}
		if a != (wide.U256{}) {
			if q, r, over := a.DivMod(a); q != (wide.U256{1}) || r != (wide.U256{}) || over {
				t.Fatalf("%x by itself is %x, rest %x, %v", a, q, r, over)
			}
		}
	}
}

// P4.2: just at a multiple, just below it, and at the greatest rest.
func TestDivModAtMultiples(t *testing.T) {
	draw := rand.New(rand.NewSource(9))
	asked := 0
	for range 100000 {
		b, q := any256(draw), any256(draw)
		a, over := q.Mul(b).Low()
		if over || b == (wide.U256{}) {
			continue
		}
		asked++
		wantQuotient(t, a, b)
		if less, over := a.Sub(wide.U256{1}); !over {
			wantQuotient(t, less, b)
		}
		rest, _ := b.Sub(wide.U256{1})
		if most, over := a.Add(rest); !over {
			wantQuotient(t, most, b)
		}
	}
	if asked < 10000 {
		t.Errorf("only %d products fit", asked)
	}
}

// tooGreat is by how much a digit that is guessed of the divisor's highest limb alone, moved up to have its highest bit set, is above the true one.
func tooGreat(a, b *big.Int, place int) int {
	above := new(big.Int).Rsh(a, uint(64*(place+1)))
	part := above.Mod(above, b)
	part.Lsh(part, 64)
	limb := new(big.Int).Rsh(a, uint(64*place))
	part.Or(part, limb.And(limb, new(big.Int).SetUint64(top)))

	room := uint(256 - b.BitLen())
	high := new(big.Int).Lsh(part, room)
	by := new(big.Int).Lsh(b, room)
	guess := high.Rsh(high, 192).Div(high, by.Rsh(by, 192))
	if guess.BitLen() > 64 {
		guess.SetUint64(top)
	}
	return int(guess.Sub(guess, part.Div(part, b)).Int64())
}

// P4.2: quotients where a guessed digit would be right, one too great, and two too great, at each place where that may be.
func TestDivModWhereGuessesAreTooGreat(t *testing.T) {
	draw := rand.New(rand.NewSource(10))
	var seen [3][3]int // by place, and by how much it is too great
	for range 30000 {
		var b wide.U256
		limbs := 2 + draw.Intn(2)
		for i := range limbs - 1 {
			b[i] = top - uint64(draw.Intn(3))
		}
		b[limbs-1] = (1<<63 | uint64(draw.Intn(3))) >> draw.Intn(3)
		var q wide.U256
		for i := range 4 - limbs {
			q[i] = top - uint64(draw.Intn(8))
		}
		a, over := q.Mul(b).Low()
		if over {
			t.Fatalf("%x times %x is over", q, b)
		}
		rest, _ := b.Sub(wide.U256{1 + uint64(draw.Intn(2))})
		if draw.Intn(2) == 0 {
			rest = wide.U256{uint64(draw.Intn(2))}
		}
		a, over = a.Add(rest)
		if over {
			t.Fatalf("%x times %x, and %x, is over", q, b, rest)
		}
		for place := range seen {
			by := tooGreat(big256(a), big256(b), place)
			if by < 0 || by > 2 {
				t.Fatalf("the guess at %d of %x by %x is off by %d", place, a, b, by)
			}
			seen[place][by]++
		}
		wantQuotient(t, a, b)
	}
	for place := range 2 {
		for by, times := range seen[place] {
			if times < 10 {
				t.Errorf("at the place %d only %d guesses are %d too great", place, times, by)
			}
		}
	}
}

// P4.3: moves by all that may be, and by far more, with and without bits that fall out.
func TestShlAndShr(t *testing.T) {
	for _, a := range numbers256(11, 2000) {
		for _, n := range shifts {
			wantMoved(t, a, n)
		}
	}
	for _, a := range []wide.U256{{}, {1}, {3}, {0, 0, 0, 1 << 63}, {top, top, top, top}, {0x0123456789abcdef, 0xfedcba9876543210, 7}} {
		for n := range uint(600) {
			wantMoved(t, a, n)
		}
	}
}

// P4.3: one bit alone, at each place: it falls out just where the number ends.
func TestShiftsOfOneBit(t *testing.T) {
	one := func(place uint) (a wide.U256) {
		a[place/64] = 1 << (place % 64)
		return a
	}
	for place := range uint(256) {
		for n := range uint(300) {
			want, wantOver := wide.U256{}, true
			if place+n < 256 {
				want, wantOver = one(place+n), false
			}
			if got, over := one(place).Shl(n); got != want || over != wantOver {
				t.Fatalf("the bit %d up by %d is %x, %v", place, n, got, over)
			}
			want, wantOver = wide.U256{}, true
			if n <= place {
				want, wantOver = one(place-n), false
			}
			if got, over := one(place).Shr(n); got != want || over != wantOver {
				t.Fatalf("the bit %d down by %d is %x, %v", place, n, got, over)
			}
		}
	}
	for _, n := range shifts {
		if got, over := (wide.U256{}).Shl(n); got != (wide.U256{}) || over {
			t.Errorf("0 up by %d is %x, %v", n, got, over)
		}
		if got, over := (wide.U256{}).Shr(n); got != (wide.U256{}) || over {
			t.Errorf("0 down by %d is %x, %v", n, got, over)
		}
	}
}

// P4.4: numbers of 256 bits compare as their values do.
func TestCmp(t *testing.T) {
	pairs256(12, 20000, func(a, b wide.U256) {
		if got, want := a.Cmp(b), big256(a).Cmp(big256(b)); got != want {
			t.Fatalf("%x against %x is %d, not %d", a, b, got, want)
		}
		if a.Cmp(a) != 0 {
			t.Fatalf("%x against itself is %d", a, a.Cmp(a))
		}
	})
}

// P4.4: numbers of 512 bits compare as their values do.
func TestCmp512(t *testing.T) {
	draw := rand.New(rand.NewSource(13))
	for range 50000 {
		a, b := any512(draw), any512(draw)
		copy(b[draw.Intn(9):], a[:]) // some are alike in limbs, at places of their own
		if draw.Intn(2) == 0 {
			b = a
			b[draw.Intn(8)] = anyLimb(draw)
		}
		if got, want := a.Cmp(b), big512(a).Cmp(big512(b)); got != want {
			t.Fatalf("%x against %x is %d, not %d", a, b, got, want)
		}
		if a.Cmp(a) != 0 {
			t.Fatalf("%x against itself is %d", a, a.Cmp(a))
		}
	}
}

// P4.4: where the limbs differ in one place alone, that one tells; where in two, the upper one.
func TestCmpByOneLimb(t *testing.T) {
	for _, fill := range edges {
		for _, low := range edges {
			for _, high := range edges {
				for i := range 8 {
					var a, b wide.U512
					for j := range a {
						a[j], b[j] = fill, fill
					}
					a[i], b[i] = low, high
					want := bigOf(low).Cmp(bigOf(high))
					if got := a.Cmp(b); got != want {
						t.Errorf("%x against %x is %d", a, b, got)
					}
					c, d := wide.U256(a[:4]), wide.U256(b[:4])
					if i < 4 && c.Cmp(d) != want {
						t.Errorf("%x against %x is %d", c, d, c.Cmp(d))
					}
				}
			}
		}
	}
	for i := range 8 {
		for j := range i {
			var a, b wide.U512
			a[i], b[j] = 1, top
			if a.Cmp(b) != 1 || b.Cmp(a) != -1 {
				t.Errorf("%x against %x is %d, and back %d", a, b, a.Cmp(b), b.Cmp(a))
			}
			c, d := wide.U256(a[:4]), wide.U256(b[:4])
			if i < 4 && (c.Cmp(d) != 1 || d.Cmp(c) != -1) {
				t.Errorf("%x against %x is %d, and back %d", c, d, c.Cmp(d), d.Cmp(c))
			}
		}
	}
}

// P4.4: BitLen of 0, and with each bit as the highest one, whatever is below it.
func TestBitLen(t *testing.T) {
	if n := (wide.U256{}).BitLen(); n != 0 {
		t.Errorf("0 has %d bits", n)
	}
	if n := (wide.U512{}).BitLen(); n != 0 {
		t.Errorf("0 has %d bits", n)
	}
	for place := range 512 {
		alone, _ := low512(power(place))
		full, _ := low512(new(big.Int).Sub(power(place+1), big.NewInt(1)))
		for _, a := range []wide.U512{alone, full} {
			if n := a.BitLen(); n != place+1 {
				t.Errorf("%x has %d bits", a, n)
			}
			if n := wide.U256(a[:4]).BitLen(); place < 256 && n != place+1 {
				t.Errorf("%x has %d bits", a[:4], n)
			}
		}
	}
	draw := rand.New(rand.NewSource(14))
	for range 20000 {
		a, b := any256(draw), any512(draw)
		if n := a.BitLen(); n != big256(a).BitLen() {
			t.Fatalf("%x has %d bits", a, n)
		}
		if n := b.BitLen(); n != big512(b).BitLen() {
			t.Fatalf("%x has %d bits", b, n)
		}
	}
}

// P4.4: Low tells the lowest four limbs, and over by each of the others alone.
func TestLow(t *testing.T) {
	for _, a := range numbers256(15, 1000) {
		whole := wide.U512{a[0], a[1], a[2], a[3]}
		if got, over := whole.Low(); got != a || over {
			t.Fatalf("the lowest of %x are %x, %v", whole, got, over)
		}
		for i := 4; i < 8; i++ {
			for _, limb := range []uint64{1, 2, 1 << 32, 1 << 63, top} {
				above := whole
				above[i] = limb
				if got, over := above.Low(); got != a || !over {
					t.Fatalf("the lowest of %x are %x, %v", above, got, over)
				}
			}
		}
	}
	draw := rand.New(rand.NewSource(16))
	for range 20000 {
		a := any512(draw)
		want, wantOver := low256(big512(a))
		if got, over := a.Low(); got != want || over != wantOver {
			t.Fatalf("the lowest of %x are %x, %v", a, got, over)
		}
	}
}

// P4.5: what was added is taken away again, and tells over just if the sum did; what was taken away is added again.
func TestSumsAreTakenAway(t *testing.T) {
	pairs256(17, 20000, func(a, b wide.U256) {
		sum, over := a.Add(b)
		if back, under := sum.Sub(b); back != a || under != over {
			t.Fatalf("%x and %x are %x, %v; less that %x, %v", a, b, sum, over, back, under)
		}
		rest, under := a.Sub(b)
		if back, over := rest.Add(b); back != a || over != under {
			t.Fatalf("%x less %x is %x, %v; and that %x, %v", a, b, rest, under, back, over)
		}
		if under != (a.Cmp(b) < 0) {
			t.Fatalf("%x less %x tells %v", a, b, under)
		}
	})
}

// P4.5: a number is its quotient times the divisor, and the rest, which is below the divisor.
func TestQuotientsGoBack(t *testing.T) {
	pairs256(18, 20000, func(a, b wide.U256) {
		q, r, over := a.DivMod(b)
		if over != (b == wide.U256{}) {
			t.Fatalf("%x by %x tells %v", a, b, over)
		}
		if over {
			return
		}
		product, high := q.Mul(b).Low()
		back, more := product.Add(r)
		if high || more || back != a || r.Cmp(b) >= 0 {
			t.Fatalf("%x by %x is %x, rest %x", a, b, q, r)
		}
	})
	draw := rand.New(rand.NewSource(19))
	for range 50000 {
		a, b := wide.U128{anyLimb(draw), anyLimb(draw)}, anyLimb(draw)
		q, r, over := wide.Div128(a, b)
		if over != (b == 0) {
			t.Fatalf("%x by %x tells %v", a, b, over)
		}
		if over {
			continue
		}
		product := wide.U256{q[0], q[1]}.Mul(wide.U256{b})
		back, _ := product.Add(wide.U512{r})
		if back != (wide.U512{a[0], a[1]}) || r >= b {
			t.Fatalf("%x by %x is %x, rest %x", a, b, q, r)
		}
	}
}

// P4.5: products and sums are commutative.
func TestCommutative(t *testing.T) {
	pairs256(20, 20000, func(a, b wide.U256) {
		sum, over := a.Add(b)
		if other, more := b.Add(a); other != sum || more != over {
			t.Fatalf("%x and %x are %x, %v, and %x, %v", a, b, sum, over, other, more)
		}
		product := a.Mul(b)
		if other := b.Mul(a); other != product {
			t.Fatalf("%x times %x is %x, and %x", a, b, product, other)
		}
		long, over := product.Add(wide.U512{1, 2, 3, 4, a[0], a[1], b[2], b[3]})
		if other, more := (wide.U512{1, 2, 3, 4, a[0], a[1], b[2], b[3]}).Add(product); other != long || more != over {
			t.Fatalf("of %x a sum is %x, %v, and %x, %v", product, long, over, other, more)
		}
		if wide.Mul64(a[0], b[3]) != wide.Mul64(b[3], a[0]) {
			t.Fatalf("%x times %x is not the same both ways", a[0], b[3])
		}
	})
}

// P4.5: products are spread over sums that fit.
func TestProductsAreSpread(t *testing.T) {
	draw := rand.New(rand.NewSource(21))
	asked := 0
	for range 50000 {
		a, b, c := any256(draw), any256(draw), any256(draw)
		sum, over := b.Add(c)
		if over {
			continue
		}
		asked++
		spread, over := a.Mul(b).Add(a.Mul(c))
		if whole := a.Mul(sum); whole != spread || over {
			t.Fatalf("%x times %x and %x is %x, and %x, %v", a, b, c, whole, spread, over)
		}
	}
	if asked < 20000 {
		t.Errorf("only %d sums fit", asked)
	}
}

// P4.5: what is moved one way without over is what it was, when it is moved back.
func TestMovesGoBack(t *testing.T) {
	up, down := 0, 0
	for _, a := range numbers256(22, 2000) {
		for _, n := range shifts {
			if moved, over := a.Shl(n); !over {
				up++
				if back, lost := moved.Shr(n); back != a || lost {
					t.Fatalf("%x up by %d is %x, and back %x, %v", a, n, moved, back, lost)
				}
			}
			if moved, lost := a.Shr(n); !lost {
				down++
				if back, over := moved.Shl(n); back != a || over {
					t.Fatalf("%x down by %d is %x, and back %x, %v", a, n, moved, back, over)
				}
			}
		}
	}
	if up < 1000 || down < 1000 {
		t.Errorf("only %d moves up and %d moves down are without over", up, down)
	}
}

// R5: no call changes the numbers that it is asked of.
func TestNumbersStayAsTheyWere(t *testing.T) {
	draw := rand.New(rand.NewSource(23))
	for range 2000 {
		a, b, c := any256(draw), any256(draw), any512(draw)
		p, q, r := a, b, c
		a.Add(b)
		a.Sub(b)
		a.Mul(b)
		a.DivMod(b)
		a.Shl(uint(b[0] % 300))
		a.Shr(uint(b[0] % 300))
		a.Cmp(b)
		c.Add(c)
		c.Cmp(wide.U512{})
		low, _ := c.Low()
		low[0]++
		if a != p || b != q || c != r {
			t.Fatalf("%x, %x, %x became %x, %x, %x", p, q, r, a, b, c)
		}
	}
}
