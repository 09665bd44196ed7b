package pack_test

import (
	"encoding/binary"
	"encoding/hex"
	"math"
	"math/rand"
	"slices"
	"strconv"
	"strings"
	"testing"

	"sextant/api"
	"sextant/pack"
)

// thing is what a writer is asked to lay: its sort is the call's name.
type thing struct {
	sort string
	num  uint64
	text string
	n    int
}

func (x thing) String() string {
	switch x.sort {
	case "Num":
		return "Num(" + strconv.FormatUint(x.num, 10) + ")"
	case "Bin", "Str":
		return x.sort + " of " + strconv.Itoa(len(x.text)) + " bytes"
	}
	return x.sort + "(" + strconv.Itoa(x.n) + ")"
}

func (x thing) ask(w *pack.Writer) api.Errno {
	switch x.sort {
	case "Num":
		return w.Num(x.num)
	case "Bin":
		return w.Bin(x.text)
	case "Str":
		return w.Str(x.text)
	case "List":
		return w.List(x.n)
	}
	return w.Map(x.n)
}

// reference is what the chapter's rows say of it, by the library's own means.
func (x thing) reference() (string, api.Errno) {
	switch x.sort {
	case "Num":
		return numBytes(x.num), api.OK
	case "Bin":
		return counted(len(x.text), 0, 0, 0xc4, 0xc5, x.text)
	case "Str":
		return counted(len(x.text), 32, 0xa0, 0xd9, 0xda, x.text)
	case "List":
		return counted(x.n, 16, 0x90, 0, 0xdc, "")
	}
	return counted(x.n, 16, 0x80, 0, 0xde, "")
}

func numBytes(n uint64) string {
	switch {
	case n < 128:
		return string([]byte{byte(n)})
	case n <= math.MaxUint8:
		return string([]byte{0xcc, byte(n)})
	case n <= math.MaxUint16:
		return string(binary.BigEndian.AppendUint16([]byte{0xcd}, uint16(n)))
	case n <= math.MaxUint32:
		return string(binary.BigEndian.AppendUint32([]byte{0xce}, uint32(n)))
	}
	return string(binary.BigEndian.AppendUint64([]byte{0xcf}, n))
}

// counted is a count and what it counts: below few within the first byte; a first byte of 0 stands for a row that is not there.
func counted(n, few int, within, one, two byte, behind string) (string, api.Errno) {
	switch {
	case n < 0:
		return "", api.ErrArg
	case n > math.MaxUint16:
		return "", api.ErrLong
	case n < few:
		return string([]byte{within + byte(n)}) + behind, api.OK
	case one != 0 && n <= math.MaxUint8:
		return string([]byte{one, byte(n)}) + behind, api.OK
	}
	return string(binary.BigEndian.AppendUint16([]byte{two}, uint16(n))) + behind, api.OK
}

// sample is a text of n bytes of all values, what looks like a thing's first byte among them.
func sample(n int) string {
	text := make([]byte, n)
	for i := range text {
		text[i] = byte(i*7 + i/256 + 0xc0)
	}
	return string(text)
}

var (
	numbers = []uint64{
		0, 1, 2, 63, 64, 126, 127, 128, 129, 200, 254, 255, 256, 257, 258, 4660, 32767, 32768, 65534, 65535,
		65536, 65537, 66051, 1<<24 - 1, 1 << 24, 1<<31 - 1, 1 << 31, 1<<32 - 2, 1<<32 - 1,
		1 << 32, 1<<32 + 1, 1<<40 + 5, 1<<48 - 1, 1 << 48, 1 << 56, 0x0123456789abcdef, 1<<63 - 1, 1 << 63, 1<<64 - 2, 1<<64 - 1,
	}
	lengths = []int{0, 1, 2, 15, 16, 30, 31, 32, 33, 127, 128, 254, 255, 256, 257, 4660, 32767, 32768, 65534, 65535}
	counts  = []int{0, 1, 2, 7, 8, 14, 15, 16, 17, 31, 32, 127, 128, 254, 255, 256, 257, 4660, 32767, 32768, 65534, 65535}

	tooLong  = []int{65536, 65537, 65551, 65567, 65791, 131071, 131072, 1 << 20}
	tooMany  = []int{65536, 65537, 65551, 65552, 131071, 131072, 1 << 20, 1<<31 - 1, 1 << 31, 1 << 32, 1<<32 + 5, 1<<40 + 7, math.MaxInt - 1, math.MaxInt}
	tooFew   = []int{-1, -2, -15, -16, -128, -255, -256, -65535, -65536, -65537, math.MinInt32, math.MinInt32 - 1, -1 << 32, math.MinInt + 1, math.MinInt}
	strSorts = []string{"Bin", "Str"}
	cntSorts = []string{"List", "Map"}
)

// taken are things that are laid, at both ends of each row and between.
func taken() (all []thing) {
	for _, n := range numbers {
		all = append(all, thing{sort: "Num", num: n})
	}
	for _, sort := range strSorts {
		for _, n := range lengths {
			all = append(all, thing{sort: sort, text: sample(n)})
		}
	}
	for _, sort := range cntSorts {
		for _, n := range counts {
			all = append(all, thing{sort: sort, n: n})
		}
	}
	return all
}

// refused are things that are not.
func refused() (all []thing) {
	for _, sort := range strSorts {
		for _, n := range tooLong {
			all = append(all, thing{sort: sort, text: sample(n)})
		}
	}
	for _, sort := range cntSorts {
		for _, n := range slices.Concat(tooMany, tooFew) {
			all = append(all, thing{sort: sort, n: n})
		}
	}
	return all
}

// short is enough of a text to find a fault by.
func short(s string) string {
	return hex.EncodeToString([]byte(s[:min(len(s), 24)])) + " (" + strconv.Itoa(len(s)) + " bytes)"
}

func wantText(t *testing.T, what string, w *pack.Writer, want string) {
	t.Helper()
	if got := w.Text(); got != want {
		t.Fatalf("%s: the bytes are %s, not %s", what, short(got), short(want))
	}
	if w.Len() != len(want) {
		t.Fatalf("%s: Len is %d, not %d", what, w.Len(), len(want))
	}
}

// laid asks a new writer for a thing alone, and that it lays what the rows say.
func laid(t *testing.T, x thing) string {
	t.Helper()
	want, wantCode := x.reference()
	w := pack.New()
	if code := x.ask(w); code != wantCode {
		t.Fatalf("%v answers %d, not %d", x, code, wantCode)
	}
	wantText(t, x.String(), w, want)
	return want
}

// P5.1, P5.2: the chapter's examples.
func TestExamples(t *testing.T) {
	examples := []struct {
		thing
		code  api.Errno
		bytes string
	}{
		{thing{sort: "Num", num: 127}, api.OK, "7f"},
		{thing{sort: "Num", num: 128}, api.OK, "cc80"},
		{thing{sort: "Num", num: 256}, api.OK, "cd0100"},
		{thing{sort: "Num", num: 65536}, api.OK, "ce00010000"},
		{thing{sort: "Num", num: 4294967296}, api.OK, "cf0000000100000000"},
		{thing{sort: "Bin", text: "abc"}, api.OK, "c403616263"},
		{thing{sort: "Str", text: "ab"}, api.OK, "a26162"},
		{thing{sort: "Str", text: strings.Repeat("a", 32)}, api.OK, "d920" + strings.Repeat("61", 32)},
		{thing{sort: "List", n: 3}, api.OK, "93"},
		{thing{sort: "List", n: 16}, api.OK, "dc0010"},
		{thing{sort: "Map", n: 15}, api.OK, "8f"},
		{thing{sort: "Map", n: 16}, api.OK, "de0010"},
		{thing{sort: "List", n: -1}, api.ErrArg, ""},
		{thing{sort: "Map", n: 65536}, api.ErrLong, ""},
		{thing{sort: "Str", text: sample(65536)}, api.ErrLong, ""},
	}
	for _, e := range examples {
		w := pack.New()
		if code := e.ask(w); code != e.code {
			t.Errorf("%v answers %d, not %d", e.thing, code, e.code)
		}
		if got := hex.EncodeToString([]byte(w.Text())); got != e.bytes || w.Len() != len(e.bytes)/2 {
			t.Errorf("%v lays %s, Len %d, not %s", e.thing, got, w.Len(), e.bytes)
		}
	}
}

// P5.1: the ends of each row, written out.
func TestRowEnds(t *testing.T) {
	ends := []struct {
		thing
		bytes string
	}{
		{thing{sort: "Num", num: 0}, "00"},
		{thing{sort: "Num", num: 255}, "ccff"},
		{thing{sort: "Num", num: 65535}, "cdffff"},
		{thing{sort: "Num", num: 1<<32 - 1}, "ceffffffff"},
		{thing{sort: "Num", num: 0x0123456789abcdef}, "cf0123456789abcdef"},
		{thing{sort: "Num", num: 1<<64 - 1}, "cfffffffffffffffff"},
		{thing{sort: "Bin"}, "c400"},
		{thing{sort: "Bin", text: sample(31)}, "c41f"},
		{thing{sort: "Bin", text: sample(255)}, "c4ff"},
		{thing{sort: "Bin", text: sample(256)}, "c50100"},
		{thing{sort: "Bin", text: sample(65535)}, "c5ffff"},
		{thing{sort: "Str"}, "a0"},
		{thing{sort: "Str", text: sample(1)}, "a1"},
		{thing{sort: "Str", text: sample(31)}, "bf"},
		{thing{sort: "Str", text: sample(32)}, "d920"},
		{thing{sort: "Str", text: sample(255)}, "d9ff"},
		{thing{sort: "Str", text: sample(256)}, "da0100"},
		{thing{sort: "Str", text: sample(65535)}, "daffff"},
		{thing{sort: "List"}, "90"},
		{thing{sort: "List", n: 15}, "9f"},
		{thing{sort: "List", n: 255}, "dc00ff"},
		{thing{sort: "List", n: 65535}, "dcffff"},
		{thing{sort: "Map"}, "80"},
		{thing{sort: "Map", n: 255}, "de00ff"},
		{thing{sort: "Map", n: 65535}, "deffff"},
	}
	for _, e := range ends {
		w := pack.New()
		if code := e.ask(w); code != api.OK {
			t.Errorf("%v answers %d", e.thing, code)
		}
		head, _ := hex.DecodeString(e.bytes)
		wantText(t, e.String(), w, string(head)+e.text)
	}
}

// P5.1: numbers of every size, each bit and the numbers beside it, and any others; the seed is fixed, so that a failure comes again.
func TestNum(t *testing.T) {
	for n := range uint64(70000) {
		laid(t, thing{sort: "Num", num: n})
	}
	for _, n := range numbers {
		laid(t, thing{sort: "Num", num: n})
	}
	draw := rand.New(rand.NewSource(1))
	for bit := range 64 {
		for _, n := range []uint64{1<<bit - 1, 1 << bit, 1<<bit + 1} {
			laid(t, thing{sort: "Num", num: n})
		}
		for range 200 {
			laid(t, thing{sort: "Num", num: draw.Uint64() >> bit})
		}
	}
}

// P5.1: bytes and texts at both ends of each row; from 2^16 bytes on they are refused.
func TestBinAndStr(t *testing.T) {
	for _, sort := range strSorts {
		for _, n := range slices.Concat(lengths, tooLong) {
			laid(t, thing{sort: sort, text: sample(n)})
		}
		for n := range 600 {
			laid(t, thing{sort: sort, text: sample(n)})
		}
	}
}

// P5.1: a text is bytes, whatever they are: noughts, what looks like another thing, what is no UTF-8, what has several bytes a letter.
func TestAnyBytes(t *testing.T) {
	for _, sort := range strSorts {
		for b := range 256 {
			for _, n := range []int{1, 31, 32, 255, 256} {
				laid(t, thing{sort: sort, text: strings.Repeat(string([]byte{byte(b)}), n)})
			}
		}
		for _, letter := range []string{"é", "€", "😀"} {
			for _, n := range []int{1, 8, 15, 16, 31, 32, 64, 100, 128, 255, 256} {
				laid(t, thing{sort: sort, text: strings.Repeat(letter, n)})
			}
		}
	}
}

// P5.2: beginnings of lists and of maps, below 0 and from 2^16 on among them.
func TestListAndMap(t *testing.T) {
	for _, sort := range cntSorts {
		for n := -300; n < 70000; n++ {
			laid(t, thing{sort: sort, n: n})
		}
		for _, n := range slices.Concat(counts, tooMany, tooFew) {
			laid(t, thing{sort: sort, n: n})
		}
	}
}

// P5.3: a new writer has no bytes, whatever others have; one goes its own way.
func TestNew(t *testing.T) {
	other := pack.New()
	other.Str("other")
	w := pack.New()
	if w == nil || w == other {
		t.Fatal("New answers no writer of its own")
	}
	wantText(t, "new", w, "")
	w.Num(5)
	wantText(t, "behind a number", w, "\x05")
	wantText(t, "the other one", other, "\xa5other")
	wantText(t, "another new one", pack.New(), "")

	var zero pack.Writer
	wantText(t, "one that New did not make", &zero, "")
	if code := zero.Num(128); code != api.OK {
		t.Errorf("Num answers %d", code)
	}
	wantText(t, "one that New did not make", &zero, "\xcc\x80")
}

// P5.3: what Text answered stays as it was, whatever is laid then.
func TestTextStays(t *testing.T) {
	w := pack.New()
	var texts []string
	for n := range 1000 {
		w.Num(uint64(n))
		texts = append(texts, w.Text())
	}
	want := ""
	for n, text := range texts {
		want += numBytes(uint64(n))
		if text != want {
			t.Fatalf("behind %d numbers the bytes are %s, not %s", n+1, short(text), short(want))
		}
	}
}

// P5.1 to P5.3: a list and a map with their things behind.
func TestThingsOfThings(t *testing.T) {
	w := pack.New()
	for _, code := range []api.Errno{w.List(3), w.Num(300), w.Map(1), w.Str("key"), w.Bin("\x00\xff"), w.List(0)} {
		if code != api.OK {
			t.Errorf("refused: %d", code)
		}
	}
	wantText(t, "a list", w, "\x93\xcd\x01\x2c\x81\xa3key\xc4\x02\x00\xff\x90")
}

// P5.3: each thing behind each other one stands behind its bytes, with one that is refused between.
func TestOneBehindTheOther(t *testing.T) {
	all := taken()
	no := refused()
	for i, x := range all {
		for j, y := range all {
			if len(x.text) > 5000 && len(y.text) > 300 {
				continue // the longest ones take their turn below
			}
			w := pack.New()
			x.ask(w)
			first, _ := x.reference()
			z := no[(i*len(all)+j)%len(no)]
			_, wantCode := z.reference()
			if code := z.ask(w); code != wantCode {
				t.Fatalf("%v behind %v answers %d, not %d", z, x, code, wantCode)
			}
			if w.Len() != len(first) {
				t.Fatalf("%v behind %v lays %d bytes", z, x, w.Len()-len(first))
			}
			if code := y.ask(w); code != api.OK {
				t.Fatalf("%v behind %v answers %d", y, x, code)
			}
			second, _ := y.reference()
			wantText(t, x.String()+", "+z.String()+", "+y.String(), w, first+second)
		}
	}
}

// P5.3: rows of any things, refused ones among them, which lay nothing and leave Text and Len as they were.
func TestRowsOfThings(t *testing.T) {
	draw := rand.New(rand.NewSource(2))
	all, no := taken(), refused()
	for range 200 {
		w, want := pack.New(), ""
		for range draw.Intn(30) {
			x := all[draw.Intn(len(all))]
			if draw.Intn(3) == 0 {
				x = no[draw.Intn(len(no))]
			}
			bytes, wantCode := x.reference()
			if code := x.ask(w); code != wantCode {
				t.Fatalf("%v answers %d, not %d", x, code, wantCode)
			}
			want += bytes
			wantText(t, x.String(), w, want)
			wantText(t, "asked again", w, want)
		}
	}
}

// P5.1 to P5.3: what is refused leaves a writer as it was, a new one and one that has bytes.
func TestRefused(t *testing.T) {
	for _, ahead := range []string{"", "x", sample(1000)} {
		for _, x := range refused() {
			w := pack.New()
			want := ""
			if ahead != "" {
				w.Bin(ahead)
				want, _ = thing{sort: "Bin", text: ahead}.reference()
			}
			_, wantCode := x.reference()
			for range 2 {
				if code := x.ask(w); code != wantCode || code == api.OK {
					t.Errorf("%v answers %d, not %d", x, code, wantCode)
				}
				wantText(t, "behind "+x.String(), w, want)
			}
			w.Num(7)
			wantText(t, "a number behind "+x.String(), w, want+"\x07")
		}
	}
}

// P5.3: a writer that is none answers ErrNil, nothing, 0, also where what it is asked would be refused.
func TestNoWriter(t *testing.T) {
	var none *pack.Writer
	for _, x := range slices.Concat(taken(), refused()) {
		if code := x.ask(none); code != api.ErrNil {
			t.Errorf("%v of none answers %d", x, code)
		}
		if text := none.Text(); text != "" {
			t.Errorf("the bytes of none are %x", text)
		}
		if n := none.Len(); n != 0 {
			t.Errorf("Len of none is %d", n)
		}
	}
}

// wantApart asks that of two things that are not alike no one's bytes begin the other one's.
func wantApart(t *testing.T, x, y thing, first, second string) {
	t.Helper()
	if x != y && (strings.HasPrefix(first, second) || strings.HasPrefix(second, first)) {
		t.Fatalf("%v lays %s, and %v lays %s", x, short(first), y, short(second))
	}
}

// P5.4: of two things, of unlike sorts and of like ones, no one's bytes begin the other one's.
func TestNoneBeginsAnother(t *testing.T) {
	all := taken()
	for n := range uint64(300) {
		all = append(all, thing{sort: "Num", num: n})
	}
	for n := range 300 {
		all = append(all, thing{sort: "List", n: n}, thing{sort: "Map", n: n})
		for _, sort := range strSorts {
			all = append(all, thing{sort: sort, text: sample(n)}, thing{sort: sort, text: strings.Repeat("\x00", n)}, thing{sort: sort, text: strings.Repeat("\xcc", n)})
		}
	}
	bytes := make([]string, len(all))
	for i, x := range all {
		bytes[i] = laid(t, x)
	}
	for i, x := range all {
		for j := range i {
			wantApart(t, x, all[j], bytes[i], bytes[j])
		}
	}
}

// P5.4: texts that begin with another thing's bytes, and with each other's, are laid apart.
func TestTextsThatLookLikeThings(t *testing.T) {
	var all []thing
	inner := ""
	for _, x := range taken() {
		bytes, _ := x.reference()
		inner = (bytes + inner)[:min(len(bytes+inner), 500)]
		for _, sort := range strSorts {
			all = append(all, thing{sort: sort, text: inner}, thing{sort: sort, text: bytes[:min(len(bytes), 300)]})
		}
	}
	for i, x := range all {
		for j := range i {
			first, second := laid(t, x), laid(t, all[j])
			wantApart(t, x, all[j], first, second)
		}
	}
}

// P5.4: numbers' bytes rise, byte by byte, as the numbers do.
func TestNumbersRise(t *testing.T) {
	all := slices.Clone(numbers)
	for n := range uint64(70000) {
		all = append(all, n)
	}
	draw := rand.New(rand.NewSource(3))
	for bit := range 64 {
		all = append(all, 1<<bit-1, 1<<bit, 1<<bit+1)
		for range 500 {
			all = append(all, draw.Uint64()>>bit)
		}
	}
	slices.Sort(all)
	all = slices.Compact(all)
	before := ""
	for i, n := range all {
		bytes := laid(t, thing{sort: "Num", num: n})
		if i > 0 && bytes <= before {
			t.Fatalf("%d lays %x, and %d, which is less, %x", n, bytes, all[i-1], before)
		}
		before = bytes
	}
}
