package stream

import (
	"math"
	"math/big"
	"math/rand"
	"testing"
)

// reaches is the greatest multiple of n that is at most 2^64, by numbers that don't run over.
func reaches(n uint64) *big.Int {
	all := new(big.Int).Lsh(big.NewInt(1), 64)
	by := new(big.Int).SetUint64(n)
	return new(big.Int).Mul(new(big.Int).Div(all, by), by)
}

func wantPassedOver(t *testing.T, drawn, n uint64) {
	t.Helper()
	want := new(big.Int).SetUint64(drawn).Cmp(reaches(n)) >= 0
	if got := passedOver(drawn, n); got != want {
		t.Errorf("is %d passed over for %d: %v", drawn, n, got)
	}
}

// P3.3: the numbers beside the greatest multiple, which no seed at hand may come to draw.
func TestPassedOverAtTheMultiple(t *testing.T) {
	draw := rand.New(rand.NewSource(1))
	numbers := []uint64{1, 2, 3, 5, 6, 7, 10, 255, 257, 65537, math.MaxUint64, math.MaxUint64 - 1, math.MaxInt64}
	for shift := range 64 {
		power := uint64(1) << shift
		numbers = append(numbers, power, power+1, power+power/2)
		if power > 1 {
			numbers = append(numbers, power-1)
		}
	}
	for range 1000 {
		numbers = append(numbers, max(1, draw.Uint64()>>draw.Intn(64)))
	}
	for _, n := range numbers {
		edge := reaches(n).Uint64() // 0 where it is 2^64: what is beside it wraps then, and is asked all the same
		for _, drawn := range []uint64{0, 1, n - 1, n, edge - 2, edge - 1, edge, edge + 1, 1 << 63, math.MaxUint64 - 1, math.MaxUint64, draw.Uint64()} {
			wantPassedOver(t, drawn, n)
		}
	}
}

// P3.3: no number is passed over for a power of two, since 2^64 is a multiple of it.
func TestPowersPassNothingOver(t *testing.T) {
	for shift := range 64 {
		for _, drawn := range []uint64{0, 1 << 63, math.MaxUint64 - 1, math.MaxUint64} {
			if passedOver(drawn, 1<<shift) {
				t.Errorf("%d is passed over for 2^%d", drawn, shift)
			}
		}
	}
}
