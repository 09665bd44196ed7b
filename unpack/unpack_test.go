package unpack_test

import (
	"encoding/binary"
	"encoding/hex"
	"errors"
	"math"
	"math/rand"
	"slices"
	"strconv"
	"strings"
	"testing"
	"unsafe"

	"sextant/api"
	"sextant/pack"
	"sextant/unpack"
)

// calls by their names: what each one answers is told in the same struct.
var calls = []string{"Num", "Bin", "Str", "List", "Map"}

// answer is what a call tells, and how far it goes.
type answer struct {
	num  uint64 // of Num, List and Map
	text string // of Bin and Str
	code api.Errno
	size int // how many bytes are read
}

// head is how a first byte begins a thing of a sort: n alone, where size is 0; else a number in size bytes.
type head struct {
	size  int
	n     uint64
	least uint64
}

// begins is the chapter's table, first byte by first byte.
func begins(call string, b byte) (head, bool) {
	switch call {
	case "Num":
		switch {
		case b < 0x80:
			return head{n: uint64(b)}, true
		case b == 0xcc:
			return head{size: 1, least: 128}, true
		case b == 0xcd:
			return head{size: 2, least: 256}, true
		case b == 0xce:
			return head{size: 4, least: 65536}, true
		case b == 0xcf:
			return head{size: 8, least: 4294967296}, true
		}
	case "Bin":
		switch b {
		case 0xc4:
			return head{size: 1}, true
		case 0xc5:
			return head{size: 2, least: 256}, true
		}
	case "Str":
		switch {
		case b >= 0xa0 && b < 0xc0:
			return head{n: uint64(b) % 32}, true
		case b == 0xd9:
			return head{size: 1, least: 32}, true
		case b == 0xda:
			return head{size: 2, least: 256}, true
		}
	case "List":
		switch {
		case b >= 0x90 && b < 0xa0:
			return head{n: uint64(b) % 16}, true
		case b == 0xdc:
			return head{size: 2, least: 16}, true
		}
	case "Map":
		switch {
		case b >= 0x80 && b < 0x90:
			return head{n: uint64(b) % 16}, true
		case b == 0xde:
			return head{size: 2, least: 16}, true
		}
	}
	return head{}, false
}

func bigEndian(s string) uint64 {
	eight := make([]byte, 8)
	copy(eight[8-len(s):], s)
	return binary.BigEndian.Uint64(eight)
}

// reference is what the chapter says of a call where s is what is left, clause by clause.
func reference(call, s string, most int) answer {
	if s == "" {
		return answer{code: api.ErrShort}
	}
	h, ok := begins(call, s[0])
	if !ok {
		return answer{code: api.ErrForm}
	}
	if len(s) < 1+h.size {
		return answer{code: api.ErrShort}
	}
	n := h.n
	if h.size > 0 {
		n = bigEndian(s[1 : 1+h.size])
	}
	if n < h.least {
		return answer{code: api.ErrForm}
	}
	if call != "Num" && (most < 0 || n > uint64(most)) && n != 0 {
		return answer{code: api.ErrLong}
	}
	if call != "Bin" && call != "Str" {
		return answer{num: n, size: 1 + h.size}
	}
	behind := s[1+h.size:]
	if uint64(len(behind)) < n {
		return answer{code: api.ErrShort}
	}
	return answer{text: behind[:n], size: 1 + h.size + int(n)}
}

// ask tells a call's answer and error, without its size.
func ask(r *unpack.Reader, call string) (got answer, err error) {
	n := 0
	switch call {
	case "Num":
		got.num, err = r.Num()
		return got, err
	case "Bin":
		got.text, err = r.Bin()
		return got, err
	case "Str":
		got.text, err = r.Str()
		return got, err
	case "List":
		n, err = r.List()
	case "Map":
		n, err = r.Map()
	}
	got.num = uint64(n)
	return got, err
}

// short is enough of a text to find a fault by.
func short(s string) string {
	return hex.EncodeToString([]byte(s[:min(len(s), 24)])) + " (" + strconv.Itoa(len(s)) + " bytes)"
}

// wantFault asks that an error is a fault, by its type and by its number.
func wantFault(t *testing.T, what string, err error, code api.Errno, at int) {
	t.Helper()
	var f *api.Fault
	if !errors.As(err, &f) {
		t.Fatalf("%s: the error is %v, and no fault", what, err)
	}
	if f.Code != code || f.At != at {
		t.Fatalf("%s: the fault is %d At %d, not %d At %d", what, f.Code, f.At, code, at)
	}
	if _, ok := err.(*api.Fault); !ok || !errors.Is(err, code) {
		t.Fatalf("%s: the fault is not %d by its number", what, code)
	}
}

// wantPlace asks by End where a reader of so many bytes stands.
func wantPlace(t *testing.T, what string, r *unpack.Reader, place, size int) {
	t.Helper()
	err := r.End()
	if place < size {
		wantFault(t, what+": End", err, api.ErrForm, place)
	} else if err != nil {
		t.Fatalf("%s: End behind all bytes: %v", what, err)
	}
}

// step asks for one thing at a place, holds what is told against the reference, and tells the place behind.
func step(t *testing.T, r *unpack.Reader, call, s string, most, place int) int {
	t.Helper()
	what := call + " at " + strconv.Itoa(place) + " of " + short(s) + ", a bound of " + strconv.Itoa(most)
	want := reference(call, s[place:], most)
	got, err := ask(r, call)
	if want.code != api.OK {
		wantFault(t, what, err, want.code, place)
	} else if err != nil {
		t.Fatalf("%s: %v", what, err)
	}
	if got.num != want.num || got.text != want.text {
		t.Fatalf("%s: the answer is %d, %s, not %d, %s", what, got.num, short(got.text), want.num, short(want.text))
	}
	wantPlace(t, what, r, place+want.size, len(s))
	return place + want.size
}

// read asks a new reader for one thing, twice, so that a reader that did not stay is found.
func read(t *testing.T, call, s string, most int) {
	t.Helper()
	r := unpack.New(s, most)
	place := step(t, r, call, s, most, 0)
	step(t, r, call, s, most, place)
}

// sample is a text of n bytes of all values, what looks like a thing's first byte among them.
func sample(n int) string {
	text := make([]byte, n)
	for i := range text {
		text[i] = byte(i*7 + i/256 + 0xc0)
	}
	return string(text)
}

// thing is a call, and what it should tell, with the bytes that the packing layer lays for it.
type thing struct {
	call  string
	num   uint64
	text  string
	bytes string
}

func (x thing) String() string {
	if x.call == "Bin" || x.call == "Str" {
		return x.call + " of " + strconv.Itoa(len(x.text)) + " bytes"
	}
	return x.call + " of " + strconv.FormatUint(x.num, 10)
}

// lay is the thing with its bytes.
func lay(call string, num uint64, text string) thing {
	w := pack.New()
	switch call {
	case "Num":
		w.Num(num)
	case "Bin":
		w.Bin(text)
	case "Str":
		w.Str(text)
	case "List":
		w.List(int(num))
	case "Map":
		w.Map(int(num))
	}
	return thing{call, num, text, w.Text()}
}

var (
	numbers = []uint64{
		0, 1, 2, 63, 64, 126, 127, 128, 129, 200, 254, 255, 256, 257, 258, 4660, 32767, 32768, 65534, 65535,
		65536, 65537, 66051, 1<<24 - 1, 1 << 24, 1<<31 - 1, 1 << 31, 1<<32 - 2, 1<<32 - 1,
		1 << 32, 1<<32 + 1, 1<<40 + 5, 1<<48 - 1, 1 << 48, 1 << 56, 0x0123456789abcdef, 1<<63 - 1, 1 << 63, 1<<64 - 2, 1<<64 - 1,
	}
	lengths = []int{0, 1, 2, 15, 16, 30, 31, 32, 33, 127, 128, 254, 255, 256, 257, 4660, 32767, 32768, 65534, 65535}
	counts  = []int{0, 1, 2, 7, 8, 14, 15, 16, 17, 31, 32, 127, 128, 254, 255, 256, 257, 4660, 32767, 32768, 65534, 65535}
)

// things are laid at both ends of each row and between.
func things() (all []thing) {
	for _, n := range numbers {
		all = append(all, lay("Num", n, ""))
	}
	for _, call := range []string{"Bin", "Str"} {
		for _, n := range lengths {
			all = append(all, lay(call, 0, sample(n)))
		}
	}
	for _, call := range []string{"List", "Map"} {
		for _, n := range counts {
			all = append(all, lay(call, uint64(n), ""))
		}
	}
	return all
}

// bytesOf are those that are written to the base 16, with blanks between.
func bytesOf(t *testing.T, base16 string) string {
	t.Helper()
	s, err := hex.DecodeString(strings.ReplaceAll(base16, " ", ""))
	if err != nil {
		t.Fatal(err)
	}
	return string(s)
}

// P6.2, P6.3: the chapter's examples.
func TestExamples(t *testing.T) {
	examples := []struct {
		bytes string
		most  int
		calls []string
		want  []answer
	}{
		{"7f", 9, []string{"Num"}, []answer{{num: 127}}},
		{"cc 80", 9, []string{"Num"}, []answer{{num: 128}}},
		{"cd 01 00", 9, []string{"Num"}, []answer{{num: 256}}},
		{"cc 7f", 9, []string{"Num"}, []answer{{code: api.ErrForm}}},
		{"cd 00 ff", 9, []string{"Num"}, []answer{{code: api.ErrForm}}},
		{"a2 61 62", 9, []string{"Str"}, []answer{{text: "ab"}}},
		{"a2 61", 9, []string{"Str"}, []answer{{code: api.ErrShort}}},
		{"93 01 02 03", 9, []string{"List", "Num", "Num", "Num"}, []answer{{num: 3}, {num: 1}, {num: 2}, {num: 3}}},
		{"c4 03 61 62 63", 2, []string{"Bin"}, []answer{{code: api.ErrLong}}},
	}
	for _, e := range examples {
		s := bytesOf(t, e.bytes)
		r := unpack.New(s, e.most)
		var failed bool
		for i, call := range e.calls {
			got, err := ask(r, call)
			want := e.want[i]
			if want.code != api.OK {
				wantFault(t, call+" of "+e.bytes, err, want.code, 0)
				failed = true
			} else if err != nil {
				t.Errorf("%s of %s: %v", call, e.bytes, err)
			}
			if got.num != want.num || got.text != want.text {
				t.Errorf("%s of %s is %d, %q", call, e.bytes, got.num, got.text)
			}
		}
		if failed {
			wantPlace(t, e.bytes, r, 0, len(s))
		} else if err := r.End(); err != nil {
			t.Errorf("End of %s: %v", e.bytes, err)
		}
	}
}

// P6.2: both ends of each row, and what a row ahead could say, written out.
func TestRowEnds(t *testing.T) {
	rows := []struct {
		call, bytes string
		num         uint64
		code        api.Errno
	}{
		{"Num", "00", 0, api.OK},
		{"Num", "7f", 127, api.OK},
		{"Num", "cc 00", 0, api.ErrForm},
		{"Num", "cc 7f", 0, api.ErrForm},
		{"Num", "cc 80", 128, api.OK},
		{"Num", "cc ff", 255, api.OK},
		{"Num", "cd 00 00", 0, api.ErrForm},
		{"Num", "cd 00 ff", 0, api.ErrForm},
		{"Num", "cd 01 00", 256, api.OK},
		{"Num", "cd ff ff", 65535, api.OK},
		{"Num", "ce 00 00 00 00", 0, api.ErrForm},
		{"Num", "ce 00 00 ff ff", 0, api.ErrForm},
		{"Num", "ce 00 01 00 00", 65536, api.OK},
		{"Num", "ce ff ff ff ff", 1<<32 - 1, api.OK},
		{"Num", "cf 00 00 00 00 00 00 00 00", 0, api.ErrForm},
		{"Num", "cf 00 00 00 00 ff ff ff ff", 0, api.ErrForm},
		{"Num", "cf 00 00 00 01 00 00 00 00", 1 << 32, api.OK},
		{"Num", "cf 01 23 45 67 89 ab cd ef", 0x0123456789abcdef, api.OK},
		{"Num", "cf ff ff ff ff ff ff ff ff", 1<<64 - 1, api.OK},
		{"List", "90", 0, api.OK},
		{"List", "9f", 15, api.OK},
		{"List", "dc 00 00", 0, api.ErrForm},
		{"List", "dc 00 0f", 0, api.ErrForm},
		{"List", "dc 00 10", 16, api.OK},
		{"List", "dc ff ff", 65535, api.OK},
		{"Map", "80", 0, api.OK},
		{"Map", "8f", 15, api.OK},
		{"Map", "de 00 00", 0, api.ErrForm},
		{"Map", "de 00 0f", 0, api.ErrForm},
		{"Map", "de 00 10", 16, api.OK},
		{"Map", "de ff ff", 65535, api.OK},
	}
	for _, x := range rows {
		s := bytesOf(t, x.bytes)
		r := unpack.New(s, 65535)
		got, err := ask(r, x.call)
		if x.code != api.OK {
			wantFault(t, x.call+" of "+x.bytes, err, x.code, 0)
			wantPlace(t, x.call+" of "+x.bytes, r, 0, len(s))
			continue
		}
		if got.num != x.num || err != nil || r.End() != nil {
			t.Errorf("%s of %s is %d, %v, then End %v", x.call, x.bytes, got.num, err, r.End())
		}
	}
}

// P6.2: the same of bytes and texts.
func TestRowEndsOfTexts(t *testing.T) {
	rows := []struct {
		call, bytes string
		size        int
		code        api.Errno
	}{
		{"Bin", "c4 00", 0, api.OK},
		{"Bin", "c4 1f", 31, api.OK},
		{"Bin", "c4 ff", 255, api.OK},
		{"Bin", "c5 00 00", 0, api.ErrForm},
		{"Bin", "c5 00 ff", 255, api.ErrForm},
		{"Bin", "c5 01 00", 256, api.OK},
		{"Bin", "c5 ff ff", 65535, api.OK},
		{"Str", "a0", 0, api.OK},
		{"Str", "a1", 1, api.OK},
		{"Str", "bf", 31, api.OK},
		{"Str", "d9 00", 0, api.ErrForm},
		{"Str", "d9 1f", 31, api.ErrForm},
		{"Str", "d9 20", 32, api.OK},
		{"Str", "d9 ff", 255, api.OK},
		{"Str", "da 00 00", 0, api.ErrForm},
		{"Str", "da 00 ff", 255, api.ErrForm},
		{"Str", "da 01 00", 256, api.OK},
		{"Str", "da ff ff", 65535, api.OK},
	}
	for _, x := range rows {
		s := bytesOf(t, x.bytes) + sample(x.size)
		r := unpack.New(s, 65535)
		got, err := ask(r, x.call)
		if x.code != api.OK {
			wantFault(t, x.call+" of "+x.bytes, err, x.code, 0)
			wantPlace(t, x.call+" of "+x.bytes, r, 0, len(s))
			continue
		}
		if got.text != sample(x.size) || err != nil || r.End() != nil {
			t.Errorf("%s of %s is %s, %v, then End %v", x.call, x.bytes, short(got.text), err, r.End())
		}
	}
}

// P6.2: what is packed comes back, with bytes behind it and without.
func TestPackedComesBack(t *testing.T) {
	for _, x := range things() {
		for _, behind := range []string{"", "\x00", "\xff\xff", sample(300)} {
			r := unpack.New(x.bytes+behind, 65535)
			got, err := ask(r, x.call)
			if got.num != x.num || got.text != x.text || err != nil {
				t.Fatalf("%v comes back as %d, %s, %v", x, got.num, short(got.text), err)
			}
			wantPlace(t, x.String(), r, len(x.bytes), len(x.bytes+behind))
		}
	}
}

// P6.2: every number of two bytes, each bit and the numbers beside it, and any others; the seed is fixed, so that a failure comes again.
func TestNum(t *testing.T) {
	comesBack := func(n uint64) {
		x := lay("Num", n, "")
		r := unpack.New(x.bytes, 0)
		if got, err := r.Num(); got != n || err != nil || r.End() != nil {
			t.Fatalf("%d comes back as %d, %v, then End %v", n, got, err, r.End())
		}
	}
	for n := range uint64(70000) {
		comesBack(n)
	}
	draw := rand.New(rand.NewSource(1))
	for bit := range 64 {
		for _, n := range []uint64{1<<bit - 1, 1 << bit, 1<<bit + 1} {
			comesBack(n)
		}
		for range 200 {
			comesBack(draw.Uint64() >> bit)
		}
	}
}

// P6.2: every number is refused in each row that is longer than its own.
func TestNotShortest(t *testing.T) {
	longer := []struct {
		call  string
		first byte
		size  int
		least uint64
	}{
		{"Num", 0xcc, 1, 128}, {"Num", 0xcd, 2, 256}, {"Num", 0xce, 4, 65536}, {"Num", 0xcf, 8, 1 << 32},
		{"Bin", 0xc4, 1, 0}, {"Bin", 0xc5, 2, 256}, {"Str", 0xd9, 1, 32}, {"Str", 0xda, 2, 256},
		{"List", 0xdc, 2, 16}, {"Map", 0xde, 2, 16},
	}
	values := slices.Clone(numbers)
	for n := range uint64(300) {
		values = append(values, n)
	}
	for _, row := range longer {
		for _, n := range values {
			if row.size < 8 && n >= 1<<(8*row.size) {
				continue
			}
			s := string([]byte{row.first})
			for left := row.size - 1; left >= 0; left-- {
				s += string([]byte{byte(n >> (8 * left))})
			}
			want := answer{num: n}
			if row.call == "Bin" || row.call == "Str" {
				want = answer{text: sample(int(n))}
				s += want.text
			}
			r := unpack.New(s, 65535)
			got, err := ask(r, row.call)
			what := row.call + " of " + short(s)
			if n < row.least {
				wantFault(t, what, err, api.ErrForm, 0)
				wantPlace(t, what, r, 0, len(s))
			} else if got != want || err != nil || r.End() != nil {
				t.Fatalf("%s is %d, %s, %v, then End %v", what, got.num, short(got.text), err, r.End())
			}
		}
	}
}

// P6.2: each first byte, asked for each sort, with all sorts of bytes behind it: most begin no thing of that sort.
func TestFirstBytes(t *testing.T) {
	tails := []string{"", "\x00", "\x01", "\x10", "\x20", "\x7f", "\x80", "\xff", "\x00\x00", "\x00\x0f", "\x00\x10", "\x00\xff", "\x01\x00", "\xff\xff",
		"\x00\x00\x00\x00", "\x00\x01\x00\x00", "\x00\x00\x00\x00\x00\x00\x00\x00", "\x00\x00\x00\x01\x00\x00\x00\x00", "\xff\xff\xff\xff\xff\xff\xff\xff", sample(40), sample(300)}
	for b := range 256 {
		for _, tail := range tails {
			for _, call := range calls {
				for _, most := range []int{0, 1, 15, 65535} {
					read(t, call, string([]byte{byte(b)})+tail, most)
				}
			}
		}
	}
}

// P6.2: first bytes that begin nothing at all, whatever is asked.
func TestBeginsNothing(t *testing.T) {
	for b := 0xc0; b <= 0xff; b++ {
		if slices.Contains([]int{0xc4, 0xc5, 0xcc, 0xcd, 0xce, 0xcf, 0xd9, 0xda, 0xdc, 0xde}, b) {
			continue
		}
		for _, call := range calls {
			_, err := ask(unpack.New(string([]byte{byte(b)})+sample(70000), math.MaxInt), call)
			wantFault(t, call+" of "+strconv.Itoa(b), err, api.ErrForm, 0)
		}
	}
}

// P6.2: every call of all rows of two bytes, and of many of three, where two bytes tell how many.
func TestAllShortBytes(t *testing.T) {
	long := []int{0xc5, 0xcd, 0xda, 0xdc, 0xde}
	for _, call := range calls {
		for a := range 256 {
			for b := range 256 {
				two := string([]byte{byte(a), byte(b)})
				step(t, unpack.New(two, 5), call, two, 5, 0)
				if !slices.Contains(long, a) {
					continue
				}
				for _, c := range []byte{0, 0x0f, 0x10, 0x7f, 0x80, 0xff} {
					three := two + string([]byte{c})
					step(t, unpack.New(three, 300), call, three, 300, 0)
				}
			}
		}
	}
}

// P6.2: nothing is left: ErrShort, whatever is asked, and whatever the bound.
func TestNothingLeft(t *testing.T) {
	for _, most := range []int{math.MinInt, -1, 0, 1, math.MaxInt} {
		for _, ahead := range []string{"", "\x07", "\x07\x07\x07"} {
			r := unpack.New(ahead, most)
			for range ahead {
				r.Num()
			}
			for _, call := range calls {
				_, err := ask(r, call)
				wantFault(t, call+" of nothing", err, api.ErrShort, len(ahead))
			}
			if err := r.End(); err != nil {
				t.Errorf("End of nothing: %v", err)
			}
		}
	}
}

// cuts are all places of a few bytes; of many, those about the ends and the middle.
func cuts(size int) (all []int) {
	for n := range size {
		if n < 300 || n > size-300 || n%4099 == 0 {
			all = append(all, n)
		}
	}
	return all
}

// P6.2: bytes that are cut off at every place are ErrShort At the thing's first byte, alone and behind another thing.
func TestCutOff(t *testing.T) {
	for _, x := range things() {
		for _, n := range cuts(len(x.bytes)) {
			s := x.bytes[:n]
			r := unpack.New(s, 65535)
			got, err := ask(r, x.call)
			what := x.String() + ", cut at " + strconv.Itoa(n)
			wantFault(t, what, err, api.ErrShort, 0)
			if got != (answer{}) {
				t.Fatalf("%s answers %d, %s beside an error", what, got.num, short(got.text))
			}
			wantPlace(t, what, r, 0, n)

			r = unpack.New("\xcc\xc8"+s, 65535)
			r.Num()
			_, err = ask(r, x.call)
			wantFault(t, what+" behind a number", err, api.ErrShort, 2)
			wantPlace(t, what+" behind a number", r, 2, 2+n)
		}
	}
}

// P6.1, P6.2: bounds of 0, below 0, just long enough, one too small, and as large as may be; numbers have none.
func TestBounds(t *testing.T) {
	for _, x := range things() {
		size := int(x.num)
		if x.call == "Bin" || x.call == "Str" {
			size = len(x.text)
		}
		for _, most := range []int{math.MinInt, math.MinInt + 1, -65535, -size, -1, 0, 1, size - 1, size, size + 1, 65535, 65536, math.MaxInt32, math.MaxInt} {
			r := unpack.New(x.bytes, most)
			got, err := ask(r, x.call)
			what := x.String() + ", a bound of " + strconv.Itoa(most)
			if x.call != "Num" && size > max(most, 0) {
				wantFault(t, what, err, api.ErrLong, 0)
				wantPlace(t, what, r, 0, len(x.bytes))
				if got != (answer{}) {
					t.Fatalf("%s answers %d, %s beside an error", what, got.num, short(got.text))
				}
			} else if got.num != x.num || got.text != x.text || err != nil || r.End() != nil {
				t.Fatalf("%s is %d, %s, %v, then End %v", what, got.num, short(got.text), err, r.End())
			}
		}
	}
}

// P6.2: of two things that are wrong the one that is named first is the answer.
func TestWhichComesFirst(t *testing.T) {
	both := []struct {
		what, call, bytes string
		most              int
		code              api.Errno
	}{
		{"another sort, and too short", "Num", "d9", 9, api.ErrForm},
		{"another sort, and too long", "Str", "c4 ff", 0, api.ErrForm},
		{"no length, and a bound of 0", "Bin", "c4", 0, api.ErrShort},
		{"half a length, and a bound of 0", "Str", "da ff", 0, api.ErrShort},
		{"half a length, that could not be shortest", "Bin", "c5 00", 9, api.ErrShort},
		{"half a number, that could not be shortest", "Num", "cf 00 00 00 00", 9, api.ErrShort},
		{"half a count, and a bound of 0", "List", "dc ff", 0, api.ErrShort},
		{"half a count, that could not be shortest", "Map", "de 00", 9, api.ErrShort},
		{"not shortest, and too long", "Bin", "c5 00 80", 9, api.ErrForm},
		{"not shortest, and too long", "Str", "d9 1f", 9, api.ErrForm},
		{"not shortest, and too many", "List", "dc 00 0f", 9, api.ErrForm},
		{"not shortest, and too many", "Map", "de 00 0f", 0, api.ErrForm},
		{"not shortest, and lacking what follows", "Bin", "c5 00 05", 9, api.ErrForm},
		{"too long, and lacking what follows", "Bin", "c4 0a 61", 9, api.ErrLong},
		{"too long, and lacking what follows", "Str", "aa 61", 9, api.ErrLong},
		{"too long, and lacking what follows", "Str", "da ff ff", 65534, api.ErrLong},
		{"as long as may be, and lacking what follows", "Str", "a9 61", 9, api.ErrShort},
		{"as long as may be, and lacking what follows", "Bin", "c4 09", 9, api.ErrShort},
	}
	for _, x := range both {
		s := bytesOf(t, x.bytes)
		r := unpack.New(s, x.most)
		_, err := ask(r, x.call)
		wantFault(t, x.what+": "+x.call+" of "+x.bytes, err, x.code, 0)
		wantPlace(t, x.what, r, 0, len(s))
	}
}

// P6.2: what a list or a map holds need not be there: the reader is behind the length alone.
func TestListAndMapHeadsAlone(t *testing.T) {
	for _, call := range []string{"List", "Map"} {
		for n := range uint64(65536) {
			x := lay(call, n, "")
			r := unpack.New(x.bytes, 65535)
			if got, err := ask(r, call); got.num != n || err != nil || r.End() != nil {
				t.Fatalf("%v is %d, %v, then End %v", x, got.num, err, r.End())
			}
		}
	}
}

// P6.2: a map with a list in it, and an empty map.
func TestThingsOfThings(t *testing.T) {
	r := unpack.New("\x82\xa1k\x92\x01\xa0\xa1l\x80", 2)
	for _, x := range []thing{{call: "Map", num: 2}, {call: "Str", text: "k"}, {call: "List", num: 2}, {call: "Num", num: 1}, {call: "Str"}, {call: "Str", text: "l"}, {call: "Map"}} {
		if got, err := ask(r, x.call); got.num != x.num || got.text != x.text || err != nil {
			t.Fatalf("%v is %d, %q, %v", x, got.num, got.text, err)
		}
	}
	if err := r.End(); err != nil {
		t.Error(err)
	}
}

// P6.2: bytes and texts are any bytes: noughts, what looks like another thing, what is no UTF-8, what has several bytes a letter.
func TestAnyBytes(t *testing.T) {
	for _, call := range []string{"Bin", "Str"} {
		for b := range 256 {
			for _, n := range []int{1, 31, 32, 255, 256} {
				x := lay(call, 0, strings.Repeat(string([]byte{byte(b)}), n))
				if got, err := ask(unpack.New(x.bytes, n), call); got.text != x.text || err != nil {
					t.Fatalf("%v is %s, %v", x, short(got.text), err)
				}
			}
		}
		for _, letter := range []string{"é", "€", "😀"} {
			for n := range 130 {
				x := lay(call, 0, strings.Repeat(letter, n))
				if got, err := ask(unpack.New(x.bytes, len(x.text)), call); got.text != x.text || err != nil {
					t.Fatalf("%v is %s, %v", x, short(got.text), err)
				}
				_, err := ask(unpack.New(x.bytes, len(x.text)-1), call)
				if n > 0 {
					wantFault(t, x.String(), err, api.ErrLong, 0) // counted in bytes, not in letters
				}
			}
		}
	}
}

// P6.2, P6.3: each thing behind each other one, with calls that fail ahead, between and behind.
func TestOneBehindTheOther(t *testing.T) {
	all := things()
	for i, x := range all {
		for j, y := range all {
			if len(x.bytes) > 5000 && len(y.bytes) > 300 {
				continue
			}
			s := x.bytes + y.bytes
			r := unpack.New(s, 65535)
			other := calls[(i+j)%len(calls)]
			place := 0
			for _, z := range []thing{x, y} {
				if other != z.call {
					step(t, r, other, s, 65535, place)
				}
				step(t, r, z.call, s, 65535, place)
				place += len(z.bytes)
			}
			step(t, r, other, s, 65535, place)
		}
	}
}

// P6.2, P6.3: rows of any things, some of them broken, asked for all sorts: what fails leaves the reader where it stands.
func TestRowsOfThings(t *testing.T) {
	draw := rand.New(rand.NewSource(2))
	all := things()
	all = slices.DeleteFunc(all, func(x thing) bool { return len(x.bytes) > 5000 })
	for range 2000 {
		var bytes []byte
		for range draw.Intn(12) {
			bytes = append(bytes, all[draw.Intn(len(all))].bytes...)
		}
		for len(bytes) > 0 && draw.Intn(3) == 0 {
			bytes[draw.Intn(len(bytes))] = byte(draw.Intn(256))
		}
		s, place := string(bytes[:len(bytes)-draw.Intn(len(bytes)+1)/8]), 0
		most := []int{-1, 0, 1, 20, 300, 65535}[draw.Intn(6)]
		r := unpack.New(s, most)
		for range 40 {
			place = step(t, r, calls[draw.Intn(len(calls))], s, most, place)
		}
	}
}

// P6.3: End ahead of, between and behind things; asked again it answers the same, and moves nothing.
func TestEnd(t *testing.T) {
	s := "\x93\x05\xa2ab\xc4\x01c"
	r := unpack.New(s, 9)
	places := []int{0, 1, 2, 5, 8}
	for i, call := range []string{"List", "Num", "Str", "Bin"} {
		for range 3 {
			wantPlace(t, "ahead of "+call, r, places[i], len(s))
		}
		if _, err := ask(r, call); err != nil {
			t.Fatal(call, err)
		}
	}
	for range 3 {
		if err := r.End(); err != nil {
			t.Fatalf("End behind all: %v", err)
		}
	}
	if err := unpack.New("", 9).End(); err != nil {
		t.Errorf("End of no bytes: %v", err)
	}
	for b := range 256 {
		for _, most := range []int{-1, 0, 9} {
			wantFault(t, "End ahead of a byte", unpack.New(string([]byte{byte(b)}), most).End(), api.ErrForm, 0)
		}
	}
}

// P6.3: End behind a call that failed tells the place where that call's thing begins.
func TestEndBehindFailed(t *testing.T) {
	r := unpack.New("\x01\xa3ab", 9)
	r.Num()
	for range 3 {
		_, err := r.Str()
		wantFault(t, "a text cut off", err, api.ErrShort, 1)
		wantFault(t, "End", r.End(), api.ErrForm, 1)
		_, err = r.Num()
		wantFault(t, "a text asked for as a number", err, api.ErrForm, 1)
	}
}

// P6.1: a reader is one of its own, at the beginning, with its own bound, whatever others have read.
func TestNew(t *testing.T) {
	s := "\x01\x02\x03"
	other := unpack.New(s, 9)
	other.Num()
	r := unpack.New(s, 9)
	if r == nil || r == other {
		t.Fatal("New answers no reader of its own")
	}
	if n, err := r.Num(); n != 1 || err != nil {
		t.Errorf("the first number is %d, %v", n, err)
	}
	if n, err := other.Num(); n != 2 || err != nil {
		t.Errorf("the other one's second number is %d, %v", n, err)
	}
	wantPlace(t, "r", r, 1, len(s))
	wantPlace(t, "the other one", other, 2, len(s))

	longer := unpack.New("\xa3abc", 3)
	if _, err := unpack.New("\xa3abc", 2).Str(); !errors.Is(err, api.ErrLong) {
		t.Errorf("a bound of 2: %v", err)
	}
	if text, err := longer.Str(); text != "abc" || err != nil {
		t.Errorf("a bound of 3: %q, %v", text, err)
	}
}

// P6.1: a bound below 0 is one of 0: what is empty may be, all else is too long.
func TestBoundBelowNought(t *testing.T) {
	for _, most := range []int{0, -1, -2, -255, -65536, math.MinInt} {
		s := "\xa0\xc4\x00\x90\x80\xcf\xff\xff\xff\xff\xff\xff\xff\xff\xa1a"
		r := unpack.New(s, most)
		place := 0
		for _, call := range []string{"Str", "Bin", "List", "Map", "Num"} {
			before := place
			if place = step(t, r, call, s, most, place); place == before {
				t.Fatalf("%s is refused by a bound of %d", call, most)
			}
		}
		_, err := r.Str()
		wantFault(t, "a text of one byte", err, api.ErrLong, place)
	}
}

// P6.3: a reader that is none answers zero values and ErrNil At 0, whatever it is asked.
func TestNoReader(t *testing.T) {
	var none *unpack.Reader
	for range 2 {
		for _, call := range calls {
			got, err := ask(none, call)
			wantFault(t, call+" of none", err, api.ErrNil, 0)
			if got != (answer{}) {
				t.Errorf("%s of none is %d, %q", call, got.num, got.text)
			}
		}
		wantFault(t, "End of none", none.End(), api.ErrNil, 0)
	}
}

// P6.1: one that New did not make has no bytes, and ends well.
func TestZeroReader(t *testing.T) {
	var zero unpack.Reader
	for _, call := range calls {
		_, err := ask(&zero, call)
		wantFault(t, call, err, api.ErrShort, 0)
	}
	if err := zero.End(); err != nil {
		t.Error(err)
	}
}

// P6.2, P6.3: each fault is the caller's own: what is made of it shows in no other one.
func TestFaultsAreNew(t *testing.T) {
	var none *unpack.Reader
	for _, r := range []*unpack.Reader{unpack.New("\xff", 9), none} {
		for _, call := range append([]string{"End"}, calls...) {
			fault := func() *api.Fault {
				var f *api.Fault
				err := r.End()
				if call != "End" {
					_, err = ask(r, call)
				}
				if !errors.As(err, &f) {
					t.Fatalf("%s: %v is no fault", call, err)
				}
				return f
			}
			first := fault()
			kept := *first
			first.Code, first.At = api.ErrOther, 77
			if again := fault(); again == first || *again != kept {
				t.Errorf("%s answers %v behind %v", call, *again, kept)
			}
		}
	}
}

// P6.2: what is answered lies in memory of its own, so that it does not keep all the bytes.
func TestAnswersAreNew(t *testing.T) {
	for _, call := range []string{"Bin", "Str"} {
		for _, n := range []int{1, 31, 32, 300} {
			s := lay(call, 0, sample(n)).bytes
			got, err := ask(unpack.New(s, n), call)
			if err != nil {
				t.Fatal(err)
			}
			from, at := uintptr(unsafe.Pointer(unsafe.StringData(s))), uintptr(unsafe.Pointer(unsafe.StringData(got.text)))
			if from <= at && at < from+uintptr(len(s)) {
				t.Errorf("%s of %d bytes answers a piece of what was handed in", call, n)
			}
		}
	}
}

// told is what calls answered, so that two tellings are alike just if the calls and all that they answered are.
func told(calls []string, s string, most int) (string, bool) {
	r := unpack.New(s, most)
	all := ""
	for _, call := range calls {
		got, err := ask(r, call)
		if err != nil {
			return "", false
		}
		all += call + " " + strconv.FormatUint(got.num, 10) + " " + strconv.Quote(got.text) + ";"
	}
	return all, r.End() == nil
}

// oneWay keeps which bytes were told so.
type oneWay map[string]string

func (o oneWay) want(t *testing.T, calls []string, s string, most int) {
	t.Helper()
	all, whole := told(calls, s, most)
	if !whole {
		return
	}
	if other, ok := o[all]; ok && other != s {
		t.Fatalf("%s and %s are both read as %s", short(s), short(other), short(all))
	}
	o[all] = s
}

// P6.4: of all rows of one and two bytes, and of many longer ones, no two are wholly read alike.
func TestOneWay(t *testing.T) {
	var rows [][]string
	for _, first := range calls {
		rows = append(rows, []string{first})
		for _, second := range calls {
			rows = append(rows, []string{first, second})
		}
	}
	ways := oneWay{}
	for a := range 256 {
		for b := range 256 {
			two := string([]byte{byte(a), byte(b)})
			for _, row := range rows {
				ways.want(t, row, two, 65535)
			}
		}
		for _, row := range rows {
			ways.want(t, row, string([]byte{byte(a)}), 65535)
		}
	}
	for _, first := range []byte{0xc4, 0xc5, 0xcc, 0xcd, 0xce, 0xcf, 0xd9, 0xda, 0xdc, 0xde} {
		for n := range 300 {
			for _, noughts := range []int{0, 1, 2, 3, 6, 7} {
				for _, behind := range []int{0, n} {
					s := string([]byte{first}) + strings.Repeat("\x00", noughts) + string([]byte{byte(n >> 8), byte(n)}[1-min(n>>8, 1):]) + strings.Repeat("x", behind)
					for _, call := range calls {
						ways.want(t, []string{call}, s, 65535)
					}
				}
			}
		}
	}
	if len(ways) < 3000 {
		t.Errorf("only %d rows are read", len(ways))
	}
}

// P6.4: what is wholly read is laid again just so, broken bytes that are still read among them.
func TestLaidAgain(t *testing.T) {
	draw := rand.New(rand.NewSource(3))
	all := things()
	all = slices.DeleteFunc(all, func(x thing) bool { return len(x.bytes) > 600 })
	broken := 0
	for range 100000 {
		var row []thing
		var bytes []byte
		for range 1 + draw.Intn(4) {
			row = append(row, all[draw.Intn(len(all))])
			bytes = append(bytes, row[len(row)-1].bytes...)
		}
		for n := draw.Intn(3); n > 0; n-- {
			bytes[draw.Intn(min(len(bytes), 12))] = byte(draw.Intn(256))
		}
		r, again, laid := unpack.New(string(bytes), 65535), "", ""
		for _, x := range row {
			got, err := ask(r, x.call)
			if err != nil {
				break
			}
			again += lay(x.call, got.num, got.text).bytes
			laid += x.bytes
		}
		if r.End() == nil && again != string(bytes) {
			t.Fatalf("%s is laid again as %s", short(string(bytes)), short(again))
		}
		if r.End() == nil && again != laid {
			broken++
		}
	}
	if broken < 1000 {
		t.Errorf("only %d rows of broken bytes are read", broken)
	}
}

// R6: the same calls answer the same.
func TestSameAgain(t *testing.T) {
	for _, x := range things() {
		first, whole := told([]string{x.call}, x.bytes, 65535)
		for range 2 {
			if again, ok := told([]string{x.call}, x.bytes, 65535); again != first || ok != whole || !ok {
				t.Fatalf("%v is told otherwise the next time", x)
			}
		}
	}
}
