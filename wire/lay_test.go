package wire_test

import (
	"fmt"
	"math"
	"math/rand"
	"reflect"
	"strings"
	"testing"
	"unsafe"

	"sextant/api"
	"sextant/wire"
)

// P7.1, P7.2: the chapter's examples.
func TestExamples(t *testing.T) {
	r := full("r")
	wantLaid(t, api.Part{Root: r, Weight: 300, Life: 2, Keys: 3}, bytesOf(t, "84 a1 6b 03 a1 6c 02 a1 72 c4 20 R a1 77 cd 01 2c"))
	wantLaid(t, api.Slot{}, bytesOf(t, "80"))
	wantLaid(t, api.Slot{L: 5, Signed: true}, bytesOf(t, "82 a1 6c 05 a1 73 01"))
	wantRefused(t, api.Part{Root: r[:31]})
	wantRefused(t, api.Msg{})
	if x, err := wire.ReadSlot("\x80"); err != nil || !same(x, api.Slot{}) {
		t.Errorf("Slot of 80: %s, %v", told(x), err)
	}
	for _, e := range []struct {
		name, bytes string
		code        api.Errno
		at          int
	}{
		{"Slot", "81 a1 6c 00", api.ErrForm, 0},
		{"Slot", "82 a1 73 01 a1 6c 05", api.ErrForm, 0},
		{"Slot", "81 a1 73 02", api.ErrForm, 0},
		{"Slot", "80 80", api.ErrForm, 1},
		{"Part", "80", api.ErrForm, 0},
		{"Part", "", api.ErrShort, 0},
		{"Part", "81 a1 77 cc 05", api.ErrForm, 3},
	} {
		wantFault(t, e.name, bytesOf(t, e.bytes), e.code, e.at)
	}
}

// The things that follow have all their fields, or one alone beside the digests that are never left out.
var (
	d = full("d")

	partBytes = "85 a1 66 01 a1 6b 02 a1 6c 03 a1 72 c4 20 R a1 77 04"
	slotBytes = "83 a1 67 83 a1 69 07 a1 70 92 c4 20 Y c4 20 Z a1 76 93 c4 20 G c4 20 H c4 20 G a1 6c 05 a1 73 01"
)

var (
	wholePart = api.Part{Root: full("r"), Weight: 4, First: 1, Life: 3, Keys: 2}
	wholeSlot = api.Slot{L: 5, Signed: true, Sig: api.Sig{
		Index: 7, Wots: []string{full("g"), full("h"), full("g")}, Path: []string{full("y"), full("z")},
	}}
	wholeCert = api.Cert{
		Root: full("x"), Signed: 9, Coins: []uint64{2, 0, 2, 300},
		Reveals:   []api.Reveal{{Part: api.Part{Root: full("q")}}, {Pos: 2, Slot: wholeSlot, Part: wholePart}},
		SlotProof: []string{full("u")}, PartProof: []string{full("v"), full("w")},
	}
	wholeMsg    = api.Msg{Headers: full("h"), Parts: full("v"), Count: 65536, Proven: 1 << 40, First: 128, Last: 256}
	wholeHeader = api.Header{Round: 70000, Prev: full("p"), Txns: full("t"), Seed: full("s")}
)

// P7.1, P7.3: each key of each thing by itself, and all of them together, written out.
func TestWrittenOut(t *testing.T) {
	for _, e := range []struct {
		x     any
		bytes string
	}{
		{wholePart, partBytes},
		{api.Part{Root: full("r")}, "81 a1 72 c4 20 R"},
		{api.Part{Root: full("r"), First: 1}, "82 a1 66 01 a1 72 c4 20 R"},
		{api.Part{Root: full("r"), Keys: 127}, "82 a1 6b 7f a1 72 c4 20 R"},
		{api.Part{Root: full("r"), Life: 128}, "82 a1 6c cc 80 a1 72 c4 20 R"},
		{api.Part{Root: full("r"), Weight: math.MaxUint64}, "82 a1 72 c4 20 R a1 77 cf ff ff ff ff ff ff ff ff"},

		{wholeSlot, slotBytes},
		{api.Slot{Sig: api.Sig{Index: 1}}, "81 a1 67 81 a1 69 01"},
		{api.Slot{Sig: api.Sig{Path: []string{full("y")}}}, "81 a1 67 81 a1 70 91 c4 20 Y"},
		{api.Slot{Sig: api.Sig{Wots: []string{full("g")}}}, "81 a1 67 81 a1 76 91 c4 20 G"},
		{api.Slot{L: 65535}, "81 a1 6c cd ff ff"},
		{api.Slot{Signed: true}, "81 a1 73 01"},

		{wholeCert, "86 a1 50 92 c4 20 V c4 20 W a1 53 91 c4 20 U a1 63 c4 20 X" +
			" a1 70 94 02 00 02 cd 01 2c a1 72 92 81 a1 71 81 a1 72 c4 20 Q 83 a1 70 02 a1 71 " + partBytes + " a1 73 " + slotBytes + " a1 77 09"},
		{api.Cert{Root: full("x")}, "81 a1 63 c4 20 X"},
		{api.Cert{Root: full("x"), PartProof: []string{full("v")}}, "82 a1 50 91 c4 20 V a1 63 c4 20 X"},
		{api.Cert{Root: full("x"), SlotProof: []string{full("v")}}, "82 a1 53 91 c4 20 V a1 63 c4 20 X"},
		{api.Cert{Root: full("x"), Coins: []uint64{0}}, "82 a1 63 c4 20 X a1 70 91 00"},
		{api.Cert{Root: full("x"), Reveals: []api.Reveal{{Part: api.Part{Root: full("q")}}}}, "82 a1 63 c4 20 X a1 72 91 81 a1 71 81 a1 72 c4 20 Q"},
		{api.Cert{Root: full("x"), Reveals: []api.Reveal{{Pos: 1, Part: api.Part{Root: full("q")}}}}, "82 a1 63 c4 20 X a1 72 91 82 a1 70 01 a1 71 81 a1 72 c4 20 Q"},
		{api.Cert{Root: full("x"), Reveals: []api.Reveal{{Slot: api.Slot{L: 1}, Part: api.Part{Root: full("q")}}}}, "82 a1 63 c4 20 X a1 72 91 82 a1 71 81 a1 72 c4 20 Q a1 73 81 a1 6c 01"},
		{api.Cert{Root: full("x"), Signed: 1}, "82 a1 63 c4 20 X a1 77 01"},

		{wholeMsg, "86 a1 66 cc 80 a1 68 c4 20 H a1 6c cd 01 00 a1 6e ce 00 01 00 00 a1 76 c4 20 V a1 77 cf 00 00 01 00 00 00 00 00"},
		{api.Msg{Headers: full("h"), Parts: full("v")}, "82 a1 68 c4 20 H a1 76 c4 20 V"},
		{api.Msg{Headers: full("h"), Parts: full("v"), First: 1}, "83 a1 66 01 a1 68 c4 20 H a1 76 c4 20 V"},
		{api.Msg{Headers: full("h"), Parts: full("v"), Last: 1}, "83 a1 68 c4 20 H a1 6c 01 a1 76 c4 20 V"},
		{api.Msg{Headers: full("h"), Parts: full("v"), Count: 1}, "83 a1 68 c4 20 H a1 6e 01 a1 76 c4 20 V"},
		{api.Msg{Headers: full("h"), Parts: full("v"), Proven: 1}, "83 a1 68 c4 20 H a1 76 c4 20 V a1 77 01"},

		{wholeHeader, "84 a1 70 c4 20 P a1 72 ce 00 01 11 70 a1 73 c4 20 S a1 74 c4 20 T"},
		{api.Header{Prev: full("p"), Txns: full("t"), Seed: full("s")}, "83 a1 70 c4 20 P a1 73 c4 20 S a1 74 c4 20 T"},
	} {
		wantLaid(t, e.x, bytesOf(t, e.bytes))
	}
}

// P7.1: a digest that is all noughts is a digest, and never left out.
func TestDigestOfNoughts(t *testing.T) {
	z := string(make([]byte, 32))
	layAsReference(t, api.Part{Root: z})
	layAsReference(t, api.Msg{Headers: z, Parts: z})
	layAsReference(t, api.Header{Prev: z, Txns: z, Seed: z})
	layAsReference(t, api.Cert{Root: z, PartProof: []string{z}, Reveals: []api.Reveal{{Part: api.Part{Root: z}}}})
}

// P7.1: a list that has no elements is left out as one that is nil is; so is a signature that is nothing.
func TestNothingInLists(t *testing.T) {
	none := api.Sig{Wots: []string{}, Path: []string{}}
	wantLaid(t, api.Slot{Sig: none}, "\x80")
	wantLaid(t, api.Slot{Sig: none, L: 1}, "\x81\xa1l\x01")
	x := api.Cert{Root: d, Reveals: []api.Reveal{}, Coins: []uint64{}, SlotProof: []string{}, PartProof: []string{}}
	wantLaid(t, x, "\x81\xa1c\xc4\x20"+d)
	x.Reveals = []api.Reveal{{Part: api.Part{Root: d}, Slot: api.Slot{Sig: none}}}
	wantLaid(t, x, "\x82\xa1c\xc4\x20"+d+"\xa1r\x91\x81\xa1q\x81\xa1r\xc4\x20"+d)
}

// eachDigest hands on things, each with one digest that is replaced: any one of any thing, also of the things in it.
func eachDigest(digest string, each func(x any)) {
	for _, root := range []any{wholePart, wholeSlot, wholeCert, wholeMsg, wholeHeader} {
		for n := 0; ; n++ {
			x := reflect.New(reflect.TypeOf(root)).Elem()
			x.Set(clone(reflect.ValueOf(root)))
			left := n
			if !replaceDigest(x, &left, digest) {
				break
			}
			each(x.Interface())
		}
	}
}

func clone(v reflect.Value) reflect.Value {
	copied := reflect.New(v.Type()).Elem()
	copied.Set(v)
	switch v.Kind() {
	case reflect.Struct:
		for i := range v.NumField() {
			copied.Field(i).Set(clone(v.Field(i)))
		}
	case reflect.Slice:
		if v.IsNil() {
			break
		}
		copied.Set(reflect.MakeSlice(v.Type(), v.Len(), v.Len()))
		for i := range v.Len() {
			copied.Index(i).Set(clone(v.Index(i)))
		}
	}
	return copied
}

// replaceDigest replaces the digest that has so many ahead of it; false, if there are not as many.
func replaceDigest(v reflect.Value, left *int, digest string) bool {
	switch v.Kind() {
	case reflect.String:
		*left--
		if *left == -1 {
			v.SetString(digest)
		}
		return *left < 0
	case reflect.Struct:
		for i := range v.NumField() {
			if replaceDigest(v.Field(i), left, digest) {
				return true
			}
		}
	case reflect.Slice:
		for i := range v.Len() {
			if replaceDigest(v.Index(i), left, digest) {
				return true
			}
		}
	}
	return false
}

// P7.1: each digest of each thing, by itself, in a list, and of a thing in it, has 32 bytes, whatever they are.
func TestDigestSizes(t *testing.T) {
	for _, size := range []int{0, 1, 16, 31, 33, 64, 255, 256, 288, 10241, 65535, 65536, 65568} {
		count := 0
		eachDigest(strings.Repeat("x", size), func(x any) { wantRefused(t, x); count++ })
		if count != 1+5+(1+1+2+1+6)+2+3 {
			t.Fatalf("there are %d digests", count)
		}
	}
	for _, digest := range []string{strings.Repeat("\xff", 32), strings.Repeat("é", 16), full("\xc4")} {
		eachDigest(digest, func(x any) {
			if !layAsReference(t, x) {
				t.Fatalf("%s: it may be", told(x))
			}
		})
	}
}

// withLists are things with one list of n elements: signatures', by themselves and in a reveal, and a certificate's.
func withLists(what string, n int) (all []any) {
	sig := func(s api.Sig) {
		slot := api.Slot{Sig: s}
		all = append(all, slot, api.Cert{Root: d, Reveals: []api.Reveal{{Part: api.Part{Root: d}}, {Pos: 1, Slot: slot, Part: api.Part{Root: d}}}})
	}
	switch what {
	case "Path":
		sig(api.Sig{Path: many(n)})
	case "Wots":
		sig(api.Sig{Wots: many(n)})
	case "Proof":
		all = append(all, api.Cert{Root: d, PartProof: many(n)}, api.Cert{Root: d, SlotProof: many(n)}, api.Cert{Root: d, PartProof: many(n), SlotProof: many(1)})
	case "Coins":
		all = append(all, api.Cert{Root: d, Coins: rising(n)})
	case "Reveals":
		all = append(all, api.Cert{Root: d, Reveals: reveals(n)})
	}
	return all
}

var mostOf = map[string]int{"Path": 16, "Wots": 67, "Proof": 10240, "Coins": 640, "Reveals": 640}

// P7.1: lists that have as many as they may, and one more, and twice as many.
func TestLongLists(t *testing.T) {
	for what, most := range mostOf {
		for _, n := range []int{0, 1, 2, 15, 16, 17, most - 1, most, most + 1, 2 * most, 65536} {
			for _, x := range withLists(what, n) {
				if layAsReference(t, x) != (n <= most) {
					t.Errorf("%s of %d", what, n)
				}
			}
		}
	}
}

// P7.1: a list that is too long may not be, whatever is in it; nor may one with a digest that is none, at either end.
func TestWrongLists(t *testing.T) {
	for what, most := range mostOf {
		for _, x := range withLists(what, most+1) {
			wantRefused(t, x)
		}
		if what == "Coins" || what == "Reveals" {
			continue
		}
		for _, at := range []int{0, 1, 2, 3, most / 2, most - 2, most - 1} {
			for _, x := range withLists(what, most) {
				v, left := clone(reflect.ValueOf(x)), at
				if !replaceDigest(v, &left, full("x")+"x") {
					t.Fatalf("%s has not so many digests: %d", what, at)
				}
				wantRefused(t, v.Interface())
			}
		}
	}
	wantRefused(t, api.Cert{Root: d, Reveals: append(reveals(639), api.Reveal{})})
	wantRefused(t, api.Cert{Root: d, Reveals: append(reveals(3), api.Reveal{Pos: 5, Slot: wholeSlot})})
}

// drawn is any thing of that type, most of which may be.
func drawn(draw *rand.Rand, v reflect.Value) {
	switch v.Kind() {
	case reflect.Struct:
		for i := range v.NumField() {
			drawn(draw, v.Field(i))
		}
	case reflect.Slice:
		n := []int{0, 0, 1, 2, 15, 16, 17}[draw.Intn(7)]
		if v.Type().Elem().Kind() == reflect.Struct {
			n = draw.Intn(4)
		}
		if n > 0 {
			v.Set(reflect.MakeSlice(v.Type(), n, n))
		}
		for i := range n {
			drawn(draw, v.Index(i))
		}
	case reflect.Uint64:
		v.SetUint(draw.Uint64() >> draw.Intn(64) * uint64(draw.Intn(3)))
	case reflect.Bool:
		v.SetBool(draw.Intn(2) == 0)
	case reflect.String:
		size := 32
		if draw.Intn(60) == 0 {
			size = []int{0, 31, 33}[draw.Intn(3)]
		}
		bytes := make([]byte, size)
		draw.Read(bytes)
		v.SetString(string(bytes))
	}
}

// P7.1, P7.3: any things; what may be comes back. The seed is fixed, so that a failure comes again.
func TestAnyThings(t *testing.T) {
	draw := rand.New(rand.NewSource(1))
	for _, name := range names {
		may := 0
		for range 2000 {
			v := reflect.New(kinds[name]).Elem()
			drawn(draw, v)
			if layAsReference(t, v.Interface()) {
				may++
			}
		}
		if may < 200 || may == 2000 && name != "Slot" {
			t.Errorf("%d things named %s may be", may, name)
		}
	}
}

// P7.1: no two unlike things have the same bytes, and none's begin another one's of that sort.
func TestUnlikeThings(t *testing.T) {
	draw := rand.New(rand.NewSource(2))
	for _, name := range names {
		var all []string
		things := map[string]any{}
		for range 300 {
			v := reflect.New(kinds[name]).Elem()
			for i := range v.NumField() { // a few fields, of few values, so that things are nearly alike
				switch f := v.Field(i); f.Kind() {
				case reflect.Uint64:
					f.SetUint([]uint64{0, 0, 1, 2, 204, 256}[draw.Intn(6)])
				case reflect.String:
					f.SetString([]string{d, full("\xc4")}[draw.Intn(2)])
				case reflect.Bool:
					f.SetBool(draw.Intn(2) == 0)
				}
			}
			x := v.Interface()
			s, e := layIt(x)
			if other, ok := things[s]; e != api.OK || ok && !same(other, x) {
				t.Fatalf("%s and %s: %s, %d", told(x), told(other), short(s), e)
			}
			things[s] = x
			all = append(all, s)
		}
		for _, s := range all {
			for _, o := range all {
				if s != o && strings.HasPrefix(s, o) {
					t.Fatalf("%s begins with %s", short(s), short(o))
				}
			}
		}
	}
}

// P7.1: what is handed in stays as it was, and the same again answers the same.
func TestHandedIn(t *testing.T) {
	for _, x := range []any{wholePart, wholeSlot, wholeCert, wholeMsg, wholeHeader} {
		before := clone(reflect.ValueOf(x)).Interface()
		first, _ := layIt(x)
		again, _ := layIt(x)
		if first != again || !reflect.DeepEqual(x, before) {
			t.Errorf("%s has changed, or is laid otherwise again", told(x))
		}
	}
	spare := make([]uint64, 2, 9)
	wire.Cert(api.Cert{Root: d, Coins: spare})
	if fmt.Sprint(spare[:9]) != fmt.Sprint(make([]uint64, 9)) {
		t.Error("behind a list's end something was written")
	}
}

// P7.2: what is answered is new: no digest lies in the bytes that were read.
func TestAnswersAreNew(t *testing.T) {
	s, _ := wire.Header(wholeHeader)
	h, _ := wire.ReadHeader(s)
	from := uintptr(unsafe.Pointer(unsafe.StringData(s)))
	for _, digest := range []string{h.Prev, h.Txns, h.Seed} {
		if at := uintptr(unsafe.Pointer(unsafe.StringData(digest))); at >= from && at < from+uintptr(len(s)) {
			t.Error("a digest is kept as a piece of what was handed in")
		}
	}
	bytes, _ := wire.Cert(wholeCert)
	c, _ := wire.ReadCert(bytes)
	c.Coins[0], c.Reveals[0].Pos, c.Reveals[1].Slot.Sig.Wots[0], c.PartProof[0] = 9, 9, "x", "x"
	if again, err := wire.ReadCert(bytes); err != nil || !same(again, wholeCert) {
		t.Error("what was answered is answered again, changed")
	}
}
