package stream_test

import (
	"crypto/sha256"
	"encoding/binary"
	"encoding/hex"
	"math"
	"math/big"
	"math/rand"
	"strings"
	"testing"

	"sextant/api"
	"sextant/dom"
	"sextant/stream"
)

// sevens is the seed of the chapter's examples.
var sevens = strings.Repeat("\x07", 32)

// seeds are some that may be, noughts and what is no UTF-8 among them.
var seeds = []string{sevens, strings.Repeat("\x00", 32), strings.Repeat("\xff", 32), "a seed that has thirty-two bytes"}

// reference is the stream's first n bytes, by the library's own means.
func reference(seed string, n int) string {
	var all []byte
	for i := uint64(0); len(all) < n; i++ {
		frame := []byte("\x06stream\x00\x00\x00\x00\x00\x00\x00\x20" + seed + "\x00\x00\x00\x00\x00\x00\x00\x08")
		block := sha256.Sum256(binary.BigEndian.AppendUint64(frame, i))
		all = append(all, block[:]...)
	}
	return string(all[:n])
}

// number is the eight bytes from a place on, as one.
func number(bytes string, place int) uint64 {
	return binary.BigEndian.Uint64([]byte(bytes[place : place+8]))
}

func begin(t *testing.T, seed string) *stream.Stream {
	t.Helper()
	s, e := stream.New(seed)
	if e != api.OK || s == nil {
		t.Fatalf("New of %x answers %v, %v", seed, s, e)
	}
	return s
}

func wantPlace(t *testing.T, s *stream.Stream, want uint64) {
	t.Helper()
	if got := s.Place(); got != want {
		t.Fatalf("the place is %d, not %d", got, want)
	}
}

func wantBytes(t *testing.T, s *stream.Stream, want string) {
	t.Helper()
	place := s.Place()
	got, e := s.Bytes(len(want))
	if e != api.OK || got != want {
		t.Fatalf("Bytes(%d) at %d answers %v, and %d bytes: %.80x, not %.80x", len(want), place, e, len(got), got, want)
	}
	wantPlace(t, s, place+uint64(len(want)))
}

func wantBelow(t *testing.T, s *stream.Stream, n, want, draws uint64) {
	t.Helper()
	place := s.Place()
	got, e := s.Below(n)
	if e != api.OK || got != want {
		t.Fatalf("Below(%d) at %d answers %d, %v, not %d", n, place, got, e, want)
	}
	wantPlace(t, s, place+8*draws)
}

// wantRefused asks every call that is refused, and that nothing is drawn by them.
func wantRefused(t *testing.T, s *stream.Stream) {
	t.Helper()
	place := s.Place()
	for _, n := range []int{-1, 65537, -2, -32, -65536, 65538, 1 << 17, math.MinInt32, math.MaxInt32, math.MinInt, math.MaxInt} {
		if got, e := s.Bytes(n); got != "" || e != api.ErrArg {
			t.Errorf("Bytes(%d) answers %.80x, %v", n, got, e)
		}
		wantPlace(t, s, place)
	}
	if got, e := s.Below(0); got != 0 || e != api.ErrArg {
		t.Errorf("Below(0) answers %d, %v", got, e)
	}
	wantPlace(t, s, place)
}

// P3.1, P3.2 and P3.3: the chapter's examples, in their order.
func TestExamples(t *testing.T) {
	s := begin(t, sevens)
	wantBytes(t, s, dom.Hash("stream", sevens, "\x00\x00\x00\x00\x00\x00\x00\x00"))
	wantPlace(t, s, 32)
	wantBytes(t, s, "")
	for _, n := range []int{-1, 65537} {
		if got, e := s.Bytes(n); got != "" || e != api.ErrArg {
			t.Errorf("Bytes(%d) answers %x, %v", n, got, e)
		}
	}
	wantPlace(t, s, 32)
	if got, e := s.Below(0); got != 0 || e != api.ErrArg {
		t.Errorf("Below(0) answers %d, %v", got, e)
	}
	wantBelow(t, s, 1, 0, 1)
	wantPlace(t, s, 40)
	if none, e := stream.New(sevens[:31]); none != nil || e != api.ErrArg {
		t.Errorf("New of 31 bytes answers %v, %v", none, e)
	}
}

// P3.1: a seed has 32 bytes, whatever its runes are.
func TestSeedSizes(t *testing.T) {
	for _, size := range []int{0, 1, 16, 31, 33, 63, 64, 256, 288, 65536} {
		if s, e := stream.New(strings.Repeat("s", size)); s != nil || e != api.ErrArg {
			t.Errorf("New of %d bytes answers %v, %v", size, s, e)
		}
	}
	if s, e := stream.New(strings.Repeat("\xc3\xa9", 32)); s != nil || e != api.ErrArg {
		t.Errorf("New of 32 runes, 64 bytes, answers %v, %v", s, e)
	}
	for _, seed := range append(seeds, strings.Repeat("\xc3\xa9", 16)) {
		s := begin(t, seed)
		wantPlace(t, s, 0)
		wantBytes(t, s, reference(seed, 100))
	}
}

// P3.2: some blocks as they are by another program, so that nothing hangs on the reference alone.
func TestKnownBlocks(t *testing.T) {
	known := []struct {
		block int
		bytes string
	}{
		{0, "c79aaa057b6fd3ac36145499794950207cf07d8efa7e733e4be5aa35b727da8e"},
		{1, "7aaaa03d434ec9b207a63e64120759a60d1e1fba044bd5052c609ec63f0d982b"},
		{2, "a07e1912965b768c56bd7787c1ad60824e589231f29f19e2a0ffb9f8d18a4685"},
		{255, "97625af3ebbf4481f9854e7daf64a09fbe2fe1a142115e6c1dec945177c20707"},
		{256, "ca53747fd4a391b07bac9f74cca94444eb7197163d204b91123bf0d12a8989ec"},
		{65536, "7d22d901aa8dfac36bb764c91c95841c79ef8e53fc3395393253e541555052f6"},
	}
	s := begin(t, sevens)
	for _, k := range known {
		for s.Place() < uint64(32*k.block) {
			if _, e := s.Bytes(min(65536, 32*k.block-int(s.Place()))); e != api.OK {
				t.Fatal(e)
			}
		}
		want, _ := hex.DecodeString(k.bytes)
		wantBytes(t, s, string(want))
	}
}

// P3.2: as many as may be, at every edge, from the beginning of a block and from within one.
func TestBytesAtTheEdges(t *testing.T) {
	all := reference(sevens, 64+65536)
	for _, place := range []int{0, 1, 8, 31, 32, 33, 63, 64} {
		for _, n := range []int{0, 1, 2, 30, 31, 32, 33, 63, 64, 65, 96, 4096, 65535, 65536} {
			s := begin(t, sevens)
			wantBytes(t, s, all[:place])
			wantBytes(t, s, all[place:place+n])
		}
	}
}

// P3.2 and P3.3: a refused call draws nothing, wherever the stream stands, and it goes on as if there had been none.
func TestRefusedCallsDrawNothing(t *testing.T) {
	for _, place := range []int{0, 1, 7, 8, 31, 32, 33, 64, 100} {
		s := begin(t, sevens)
		wantRefused(t, s)
		wantBytes(t, s, reference(sevens, place))
		wantRefused(t, s)
		wantBytes(t, s, reference(sevens, place+100)[place:])
	}
}

// P3.2: a number is the next eight bytes, also where they go over from one block to the next one.
func TestUint64(t *testing.T) {
	all := reference(sevens, 64+8*50)
	for place := range 65 {
		s := begin(t, sevens)
		wantBytes(t, s, all[:place])
		for at := place; at < place+8*50; at += 8 {
			if got := s.Uint64(); got != number(all, at) {
				t.Fatalf("Uint64 at %d is %x, not %x", at, got, number(all, at))
			}
			wantPlace(t, s, uint64(at+8))
		}
	}
	if got := begin(t, sevens).Uint64(); got != 0xc79aaa057b6fd3ac {
		t.Errorf("Uint64 at 0 is %x", got)
	}
}

// P3.1: a copy begins at the same place; then it and its origin go their own ways.
func TestCopyGoesItsOwnWay(t *testing.T) {
	all := reference(sevens, 300)
	for place := range 100 {
		origin := begin(t, sevens)
		wantBytes(t, origin, all[:place])
		copied := origin.Copy()
		if copied == nil || copied == origin {
			t.Fatal("Copy answers no stream of its own")
		}
		wantPlace(t, copied, uint64(place))
		second := copied.Copy()

		wantBytes(t, copied, all[place:place+70])
		wantPlace(t, origin, uint64(place))
		wantBytes(t, origin, all[place:place+40])
		wantPlace(t, copied, uint64(place+70))
		wantBytes(t, copied, all[place+70:place+200])
		wantBytes(t, origin, all[place+40:place+100])
		wantPlace(t, second, uint64(place))
		if got := second.Uint64(); got != number(all, place) {
			t.Errorf("the copy's copy at %d tells %x", place, got)
		}
	}
}

// P3.3: below 1 there is only 0, and one number is drawn for it.
func TestBelowOne(t *testing.T) {
	s := begin(t, sevens)
	for range 100 {
		wantBelow(t, s, 1, 0, 1)
	}
}

// P3.3: below a power of two, 2^63 among them, no number is passed over: the lowest bits are the answer.
func TestBelowPowers(t *testing.T) {
	all := reference(sevens, 8*64*10)
	s := begin(t, sevens)
	for range 10 {
		for shift := range 64 {
			wantBelow(t, s, 1<<shift, number(all, int(s.Place()))&(1<<shift-1), 1)
		}
	}
}

// P3.3: a number is below the multiple or it is the multiple: n is chosen by what the stream is about to tell.
func TestBelowAtTheMultiple(t *testing.T) {
	all := reference(sevens, 8*500)
	seen := 0
	for at := 0; at < 8*400; at += 8 {
		drawn := number(all, at)
		if drawn <= 1<<63 {
			continue
		}
		seen++
		s := begin(t, sevens)
		wantBytes(t, s, all[:at])
		early := s.Copy()
		if drawn < math.MaxUint64 {
			wantBelow(t, s, drawn+1, drawn, 1)
		}
		want, draws := below(all[at:], drawn) // drawn is its own greatest multiple, and so is none below it
		if draws < 2 {
			t.Fatalf("%d is not passed over for itself", drawn)
		}
		wantBelow(t, early, drawn, want, draws)
	}
	if seen < 100 {
		t.Errorf("only %d numbers are above 2^63", seen)
	}
}

// below is what Below tells of these bytes, and how many numbers it takes, by numbers that don't run over.
func below(bytes string, n uint64) (want, draws uint64) {
	by := new(big.Int).SetUint64(n)
	multiple := new(big.Int).Lsh(big.NewInt(1), 64)
	multiple.Mul(multiple.Div(multiple, by), by)
	for at := 0; at+8 <= len(bytes); at += 8 {
		draws++
		drawn := new(big.Int).SetUint64(number(bytes, at))
		if drawn.Cmp(multiple) < 0 {
			return drawn.Mod(drawn, by).Uint64(), draws
		}
	}
	panic("no number is below the multiple")
}

// P3.3 and P3.4: of numbers of all sizes; above 2^63 about half of the numbers are passed over.
func TestBelowOfAnyNumber(t *testing.T) {
	numbers := []uint64{2, 3, 5, 6, 7, 10, 100, 255, 257, 1<<32 - 1, 1<<32 + 1, math.MaxInt64, 1<<63 + 1, 1<<63 + 2, 3 << 62, math.MaxUint64/3 + 1, math.MaxUint64/3 + 2, math.MaxUint64 - 1, math.MaxUint64}
	draw := rand.New(rand.NewSource(3))
	for range 100 {
		numbers = append(numbers, max(1, draw.Uint64()>>draw.Intn(64)), draw.Uint64()|1<<63)
	}
	for _, seed := range seeds {
		all := reference(seed, 8*200)
		for _, n := range numbers {
			s := begin(t, seed)
			for range 20 {
				want, draws := below(all[s.Place():], n)
				if want >= n {
					t.Fatalf("%d is not below %d", want, n)
				}
				wantBelow(t, s, n, want, draws)
			}
		}
	}
	s, passed := begin(t, sevens), uint64(0)
	for range 400 {
		place := s.Place()
		if _, e := s.Below(1<<63 + 1); e != api.OK {
			t.Fatal(e)
		}
		passed += (s.Place()-place)/8 - 1
	}
	if passed < 300 || passed > 500 {
		t.Errorf("%d numbers are passed over, of about 400", passed)
	}
}

// P3.3: a stream that is none answers ErrNil, 0 and none, also where the argument is wrong.
func TestNoStream(t *testing.T) {
	var none *stream.Stream
	for _, n := range []int{-1, 0, 1, 32, 65536, 65537} {
		if got, e := none.Bytes(n); got != "" || e != api.ErrNil {
			t.Errorf("Bytes(%d) answers %x, %v", n, got, e)
		}
	}
	for _, n := range []uint64{0, 1, 7, 1 << 63, math.MaxUint64} {
		if got, e := none.Below(n); got != 0 || e != api.ErrNil {
			t.Errorf("Below(%d) answers %d, %v", n, got, e)
		}
	}
	if got := none.Uint64(); got != 0 {
		t.Errorf("Uint64 answers %d", got)
	}
	if got := none.Place(); got != 0 {
		t.Errorf("Place answers %d", got)
	}
	if none.Copy() != nil {
		t.Error("Copy answers a stream")
	}
}

// P3.4: bytes in pieces of one size are those of the stream.
func TestEqualPieces(t *testing.T) {
	all := reference(sevens, 1000)
	for size := 1; size <= 130; size++ {
		s := begin(t, sevens)
		for at := 0; at+size <= len(all); at += size {
			wantBytes(t, s, all[at:at+size])
			wantBytes(t, s, "")
		}
	}
}

// P3.4: every call, in any order, takes what stands at its place; the seed of the order is fixed, so that a failure comes again.
func TestAnyPieces(t *testing.T) {
	draw := rand.New(rand.NewSource(4))
	for round := range 200 {
		seed := seeds[round%len(seeds)]
		all := reference(seed, 20000)
		s, at := begin(t, seed), 0
		for at < 10000 {
			switch draw.Intn(6) {
			case 0:
				wantRefused(t, s)
			case 1:
				s = s.Copy()
			case 2:
				if got := s.Uint64(); got != number(all, at) {
					t.Fatalf("Uint64 at %d is %x, not %x", at, got, number(all, at))
				}
				at += 8
			case 3:
				n := max(1, draw.Uint64()>>draw.Intn(64))
				want, draws := below(all[at:], n)
				wantBelow(t, s, n, want, draws)
				at += int(8 * draws)
			default:
				size := draw.Intn(300)
				wantBytes(t, s, all[at:at+size])
				at += size
			}
			wantPlace(t, s, uint64(at))
		}
	}
}

// P3.4 and R6: streams of one seed tell the same, one of another seed tells otherwise, and none minds the others.
func TestSameSeedGivesTheSame(t *testing.T) {
	a, b := begin(t, sevens), begin(t, sevens)
	other := begin(t, sevens[:31]+"\x08")
	for i := range 200 {
		x, _ := a.Bytes(i)
		away, _ := other.Bytes(i)
		y, _ := b.Bytes(i)
		if x != y {
			t.Fatalf("one seed tells %x and %x", x, y)
		}
		if i > 8 && x == away {
			t.Fatalf("two seeds tell %x", x)
		}
		if p, q := a.Uint64(), b.Uint64(); p != q {
			t.Fatalf("one seed tells %d and %d", p, q)
		}
		other.Uint64()
	}
}
