package wire_test

import (
	"fmt"
	"math/rand"
	"reflect"
	"slices"
	"strings"
	"testing"

	"sextant/api"
	"sextant/pack"
	"sextant/wire"
)

// wrong is what is written to the base 16 (see bytesOf), and what is wrong with it.
type wrong struct {
	name, bytes string
	code        api.Errno
	at          int
}

func wantAll(t *testing.T, all []wrong) {
	t.Helper()
	for _, w := range all {
		wantFault(t, w.name, bytesOf(t, w.bytes), w.code, w.at)
		wantAsReference(t, w.name, bytesOf(t, w.bytes))
	}
}

// P7.2: keys that are none of the thing's, that come twice, or in another order.
func TestKeys(t *testing.T) {
	wantAll(t, []wrong{
		{"Slot", "81 a1 68 05", api.ErrForm, 0},
		{"Slot", "81 a1 4c 05", api.ErrForm, 0},
		{"Slot", "81 a0 05", api.ErrForm, 0},
		{"Slot", "81 a2 6c 6c 05", api.ErrForm, 0},
		{"Slot", "81 a2 00 6c 05", api.ErrForm, 0},
		{"Slot", "81 a1 00 05", api.ErrForm, 0},
		{"Slot", "81 a1 ff 05", api.ErrForm, 0},
		{"Slot", "81 a1 69 05", api.ErrForm, 0},          // a signature's, outside it
		{"Slot", "81 a1 67 81 a1 6c 05", api.ErrForm, 0}, // a slot's, in a signature
		{"Slot", "82 a1 6c 05 a1 6c 05", api.ErrForm, 0}, // twice
		{"Slot", "82 a1 73 01 a1 73 01", api.ErrForm, 0}, // twice
		{"Slot", "82 a1 73 01 a1 6c 05", api.ErrForm, 0}, // falling
		{"Slot", "82 a1 6c 05 a1 67 81 a1 69 01", api.ErrForm, 0},
		{"Slot", "81 a1 67 82 a1 76 91 c4 20 G a1 69 01", api.ErrForm, 0},
		{"Slot", "84 a1 67 81 a1 69 01 a1 6c 05 a1 73 01 a1 74 01", api.ErrForm, 0}, // more keys than there are
		{"Part", "82 a1 77 04 a1 72 c4 20 R", api.ErrForm, 0},
		{"Part", "82 a1 72 c4 20 R a1 72 c4 20 R", api.ErrForm, 0},
		{"Part", "82 a1 52 c4 20 R a1 72 c4 20 R", api.ErrForm, 0},
		{"Header", "83 a1 73 c4 20 S a1 70 c4 20 P a1 74 c4 20 T", api.ErrForm, 0},
		{"Header", "83 a1 70 c4 20 P a1 74 c4 20 T a1 73 c4 20 S", api.ErrForm, 0},
		{"Msg", "82 a1 76 c4 20 V a1 68 c4 20 H", api.ErrForm, 0},
		{"Msg", "83 a1 68 c4 20 H a1 70 01 a1 76 c4 20 V", api.ErrForm, 0},
		{"Cert", "82 a1 63 c4 20 X a1 50 91 c4 20 V", api.ErrForm, 0},
		{"Cert", "82 a1 53 91 c4 20 V a1 50 91 c4 20 V", api.ErrForm, 0},
		{"Cert", "82 a1 63 c4 20 X a1 72 91 82 a1 71 81 a1 72 c4 20 Q a1 70 01", api.ErrForm, 0},
		{"Cert", "82 a1 63 c4 20 X a1 73 91 c4 20 V", api.ErrForm, 0}, // S, but small
	})
}

// P7.2: each thing with any text of one letter as a key, alone: only its own keys are read on from.
func TestEachKey(t *testing.T) {
	for _, name := range names {
		for letter := range 256 {
			s := "\x81\xa1" + string([]byte{byte(letter)})
			if _, ok := entryOf(name, string([]byte{byte(letter)})); ok {
				wantFault(t, name, s, api.ErrShort, 3)
			} else {
				wantFault(t, name, s, api.ErrForm, 0)
			}
		}
	}
}

// P7.2: what a key is no text of, or not laid shortest, or too long for the reader, is told with its place.
func TestKeysOfTheReader(t *testing.T) {
	long := func(n int) string { return string([]byte{0x81, 0xda, byte(n >> 8), byte(n)}) + strings.Repeat("l", n) }
	for _, name := range names {
		wantFault(t, name, "\x81\x6c\x05", api.ErrForm, 1)
		wantFault(t, name, "\x81\xc4\x01l\x05", api.ErrForm, 1)
		wantFault(t, name, "\x81\xd9\x01l\x05", api.ErrForm, 1)
		wantFault(t, name, "\x81\xda\x00\x01l\x05", api.ErrForm, 1)
		wantFault(t, name, "\x81\xa2l", api.ErrShort, 1)
		wantFault(t, name, "\x81", api.ErrShort, 1)
		wantFault(t, name, long(256), api.ErrForm, 0)
		wantFault(t, name, long(10240), api.ErrForm, 0)
		wantFault(t, name, long(10241), api.ErrLong, 1)
	}
	wantFault(t, "Slot", "\x82\xa1l\x05\x05\x01", api.ErrForm, 4)
}

// P7.2: numbers that are 0, and what is not 1 for yes; numbers that are not laid shortest are told with their place.
func TestNumbers(t *testing.T) {
	wantAll(t, []wrong{
		{"Slot", "81 a1 6c 00", api.ErrForm, 0},
		{"Slot", "81 a1 73 00", api.ErrForm, 0},
		{"Slot", "81 a1 73 02", api.ErrForm, 0},
		{"Slot", "81 a1 73 7f", api.ErrForm, 0},
		{"Slot", "81 a1 73 cd 01 01", api.ErrForm, 0},
		{"Slot", "81 a1 73 cf 00 00 00 01 00 00 00 01", api.ErrForm, 0},
		{"Slot", "81 a1 73 cf ff ff ff ff ff ff ff ff", api.ErrForm, 0},
		{"Slot", "81 a1 73 c3", api.ErrForm, 3},
		{"Slot", "81 a1 73 a1 01", api.ErrForm, 3},
		{"Slot", "81 a1 73 cc 01", api.ErrForm, 3},
		{"Slot", "81 a1 73", api.ErrShort, 3},
		{"Slot", "81 a1 6c cc 00", api.ErrForm, 3},
		{"Slot", "81 a1 6c cc 7f", api.ErrForm, 3},
		{"Slot", "81 a1 6c cd 00 ff", api.ErrForm, 3},
		{"Slot", "81 a1 6c ce 00 00 ff ff", api.ErrForm, 3},
		{"Slot", "81 a1 6c cf 00 00 00 00 ff ff ff ff", api.ErrForm, 3},
		{"Slot", "81 a1 6c cd ff", api.ErrShort, 3},
		{"Slot", "81 a1 6c e0", api.ErrForm, 3},
		{"Slot", "81 a1 67 81 a1 69 00", api.ErrForm, 0},
		{"Slot", "81 a1 67 81 a1 69 cc 05", api.ErrForm, 6},
		{"Part", "82 a1 66 00 a1 72 c4 20 R", api.ErrForm, 0},
		{"Part", "82 a1 6b 00 a1 72 c4 20 R", api.ErrForm, 0},
		{"Part", "82 a1 6c 00 a1 72 c4 20 R", api.ErrForm, 0},
		{"Part", "82 a1 72 c4 20 R a1 77 00", api.ErrForm, 0},
		{"Part", "82 a1 72 c4 20 R a1 77 cc 05", api.ErrForm, 39},
		{"Msg", "83 a1 66 00 a1 68 c4 20 H a1 76 c4 20 V", api.ErrForm, 0},
		{"Msg", "83 a1 68 c4 20 H a1 6c 00 a1 76 c4 20 V", api.ErrForm, 0},
		{"Msg", "83 a1 68 c4 20 H a1 6e 00 a1 76 c4 20 V", api.ErrForm, 0},
		{"Msg", "83 a1 68 c4 20 H a1 76 c4 20 V a1 77 00", api.ErrForm, 0},
		{"Header", "84 a1 70 c4 20 P a1 72 00 a1 73 c4 20 S a1 74 c4 20 T", api.ErrForm, 0},
		{"Cert", "82 a1 63 c4 20 X a1 77 00", api.ErrForm, 0},
		{"Cert", "82 a1 63 c4 20 X a1 70 91 cc 00", api.ErrForm, 40},
		{"Cert", "82 a1 63 c4 20 X a1 70 92 00 cc 7f", api.ErrForm, 41},
		{"Cert", "82 a1 63 c4 20 X a1 72 91 82 a1 70 00 a1 71 81 a1 72 c4 20 Q", api.ErrForm, 0},
	})
	wantLaid(t, api.Cert{Root: d, Coins: []uint64{0, 0, 1, 0}}, "\x82\xa1c\xc4\x20"+d+"\xa1p\x94\x00\x00\x01\x00")
}

// P7.2: digests that have not 32 bytes; what is none of a reader's bytes is told with its place.
func TestDigests(t *testing.T) {
	for _, size := range []int{0, 1, 31, 33, 64, 255} {
		head := string([]byte{0xc4, byte(size)})
		text := strings.Repeat("x", size)
		wantFault(t, "Part", "\x81\xa1r"+head+text, api.ErrForm, 0)
		wantFault(t, "Cert", "\x81\xa1c"+head+text, api.ErrForm, 0)
		wantFault(t, "Cert", "\x82\xa1P\x92\xc4\x20"+d+head+text, api.ErrForm, 0)
		wantFault(t, "Cert", "\x82\xa1S\x91"+head+text, api.ErrForm, 0)
		wantFault(t, "Slot", "\x81\xa1g\x81\xa1p\x91"+head+text, api.ErrForm, 0)
		wantFault(t, "Slot", "\x81\xa1g\x81\xa1v\x91"+head+text, api.ErrForm, 0)
		for _, key := range []string{"p", "s", "t"} {
			s, _ := wire.Header(wholeHeader)
			whole := "\xa1" + key + "\xc4\x20" + full(key)
			wantFault(t, "Header", strings.Replace(s, whole, "\xa1"+key+head+text, 1), api.ErrForm, 0)
		}
		for _, key := range []string{"h", "v"} {
			s, _ := wire.Msg(wholeMsg)
			whole := "\xa1" + key + "\xc4\x20" + full(key)
			wantFault(t, "Msg", strings.Replace(s, whole, "\xa1"+key+head+text, 1), api.ErrForm, 0)
		}
	}
	wantAll(t, []wrong{
		{"Part", "81 a1 72 c5 00 20 R", api.ErrForm, 3},
		{"Part", "81 a1 72 d9 20 R", api.ErrForm, 3},
		{"Part", "81 a1 72 a0", api.ErrForm, 3},
		{"Part", "81 a1 72 00", api.ErrForm, 3},
		{"Part", "81 a1 72 c4 21 R", api.ErrShort, 3},
		{"Part", "81 a1 72 c5 01 00 R R R R R R R R", api.ErrForm, 0},
		{"Part", "81 a1 72 c5 01 01 R R R R R R R R", api.ErrShort, 3},
		{"Part", "81 a1 72 c5 28 00", api.ErrShort, 3},
		{"Part", "81 a1 72 c5 28 01", api.ErrLong, 3},
		{"Part", "81 a1 72 c5 ff ff", api.ErrLong, 3},
		{"Cert", "82 a1 50 92 c4 20 X d9 20 X", api.ErrForm, 38},
	})
	s := "\x81\xa1r\xc5\x28\x00" + strings.Repeat("x", 10240)
	wantFault(t, "Part", s, api.ErrForm, 0)
	wantFault(t, "Part", s+"x", api.ErrForm, 0)
	wantFault(t, "Part", "\x81\xa1r\xc5\x28\x01"+strings.Repeat("x", 10241), api.ErrLong, 3)
}

// P7.2: lists and maps that are nothing, as fields; the thing itself may be a map without pairs, but not where it has a digest.
func TestNothingAsField(t *testing.T) {
	wantAll(t, []wrong{
		{"Slot", "81 a1 67 80", api.ErrForm, 0},
		{"Slot", "82 a1 67 80 a1 6c 05", api.ErrForm, 0},
		{"Slot", "81 a1 67 81 a1 70 90", api.ErrForm, 0},
		{"Slot", "81 a1 67 81 a1 76 90", api.ErrForm, 0},
		{"Slot", "81 a1 67 90", api.ErrForm, 3},
		{"Slot", "81 a1 67 00", api.ErrForm, 3},
		{"Slot", "81 a1 67 81 a1 70 80", api.ErrForm, 6},
		{"Slot", "81 a1 67 de 00 00", api.ErrForm, 3},
		{"Slot", "81 a1 67 81 a1 70 dc 00 00", api.ErrForm, 6},
		{"Cert", "82 a1 50 90 a1 63 c4 20 X", api.ErrForm, 0},
		{"Cert", "82 a1 53 90 a1 63 c4 20 X", api.ErrForm, 0},
		{"Cert", "82 a1 63 c4 20 X a1 70 90", api.ErrForm, 0},
		{"Cert", "82 a1 63 c4 20 X a1 72 90", api.ErrForm, 0},
		{"Cert", "82 a1 63 c4 20 X a1 72 91 80", api.ErrForm, 0},
		{"Cert", "82 a1 63 c4 20 X a1 72 91 90", api.ErrForm, 40},
		{"Cert", "82 a1 63 c4 20 X a1 72 91 81 a1 71 80", api.ErrForm, 0},
		{"Cert", "82 a1 63 c4 20 X a1 72 91 82 a1 71 81 a1 72 c4 20 Q a1 73 80", api.ErrForm, 0},
		{"Cert", "82 a1 63 c4 20 X a1 72 91 82 a1 71 81 a1 72 c4 20 Q a1 73 81 a1 67 80", api.ErrForm, 0},
		{"Part", "80", api.ErrForm, 0},
		{"Cert", "80", api.ErrForm, 0},
		{"Msg", "80", api.ErrForm, 0},
		{"Header", "80", api.ErrForm, 0},
		{"Slot", "90", api.ErrForm, 0},
		{"Slot", "c0", api.ErrForm, 0},
		{"Slot", "de 00 00", api.ErrForm, 0},
		{"Slot", "de 00 01 a1 6c 05", api.ErrForm, 0},
		{"Slot", "de 28 01", api.ErrLong, 0},
		{"Slot", "de 28 00", api.ErrShort, 3},
		{"Slot", "", api.ErrShort, 0},
	})
}

// P7.2: a digest, or a reveal's Part, that is not there, is found at the map's end, not ahead of it.
func TestNotThere(t *testing.T) {
	wantAll(t, []wrong{
		{"Part", "81 a1 66 01", api.ErrForm, 0},
		{"Part", "81 a1 77 01", api.ErrForm, 0},
		{"Part", "84 a1 66 01 a1 6b 02 a1 6c 03 a1 77 04", api.ErrForm, 0},
		{"Part", "82 a1 66 01 a1 77 cc 04", api.ErrForm, 6}, // the number is met ahead of the end
		{"Part", "82 a1 66 01 a1 77", api.ErrShort, 6},
		{"Msg", "81 a1 68 c4 20 H", api.ErrForm, 0},
		{"Msg", "81 a1 76 c4 20 V", api.ErrForm, 0},
		{"Msg", "82 a1 76 c4 20 V a1 77 cc 01", api.ErrForm, 39},
		{"Header", "82 a1 70 c4 20 P a1 73 c4 20 S", api.ErrForm, 0},
		{"Header", "82 a1 70 c4 20 P a1 74 c4 20 T", api.ErrForm, 0},
		{"Header", "82 a1 73 c4 20 S a1 74 c4 20 T", api.ErrForm, 0},
		{"Header", "82 a1 73 c4 20 S a1 74 c4 20 cc", api.ErrShort, 39},
		{"Header", "81 a1 72 05", api.ErrForm, 0},
		{"Cert", "81 a1 50 91 c4 20 V", api.ErrForm, 0},
		{"Cert", "82 a1 50 91 c4 20 V a1 77 cd 00 ff", api.ErrForm, 40},
		{"Cert", "81 a1 77 05", api.ErrForm, 0},
		{"Cert", "82 a1 63 c4 20 X a1 72 91 81 a1 70 01", api.ErrForm, 0},
		{"Cert", "82 a1 63 c4 20 X a1 72 91 82 a1 70 01 a1 73 81 a1 6c 01", api.ErrForm, 0},
		{"Cert", "82 a1 63 c4 20 X a1 72 91 82 a1 70 01 a1 73 81 a1 6c cc 01", api.ErrForm, 49},
		{"Cert", "82 a1 63 c4 20 X a1 72 91 81 a1 71 81 a1 66 01", api.ErrForm, 0},
		{"Cert", "82 a1 63 c4 20 X a1 72 92 81 a1 71 81 a1 72 c4 20 Q 81 a1 70 01", api.ErrForm, 0},
		{"Part", "80 00", api.ErrForm, 0}, // ahead of what stands behind
		{"Slot", "80 00", api.ErrForm, 1},
	})
}

// lists of the table: the bytes up to how many there are, the most there may be, and one element.
var lists = []struct {
	name, ahead string
	most        int
	one         string
}{
	{"Slot", "81 a1 67 81 a1 70", 16, "c4 20 Y"},
	{"Slot", "81 a1 67 81 a1 76", 67, "c4 20 Y"},
	{"Cert", "82 a1 63 c4 20 X a1 70", 640, "00"},
	{"Cert", "82 a1 63 c4 20 X a1 72", 640, "81 a1 71 81 a1 72 c4 20 Q"},
	{"Cert", "82 a1 63 c4 20 X a1 72 91 82 a1 71 81 a1 72 c4 20 Q a1 73 81 a1 67 81 a1 70", 16, "c4 20 Y"},
	{"Cert", "82 a1 63 c4 20 X a1 72 91 82 a1 71 81 a1 72 c4 20 Q a1 73 81 a1 67 81 a1 76", 67, "c4 20 Y"},
	{"Cert", "82 a1 50", 10240, "c4 20 Y"},
	{"Cert", "82 a1 53", 10240, "c4 20 Y"},
}

func listHead(n int) string {
	w := pack.New()
	w.List(n)
	return w.Text()
}

// P7.2: lists that have as many as they may are read, one more is ErrLong, ahead of what is in it; above the reader's
// bound the reader finds it wrong, with its place.
func TestLongListsRead(t *testing.T) {
	for _, l := range lists {
		ahead, one := bytesOf(t, l.ahead), bytesOf(t, l.one)
		behind := ""
		if l.most == bound {
			behind = "\xa1c\xc4\x20" + d
		}
		for _, n := range []int{1, 15, 16, 17, l.most - 1, l.most, l.most + 1, 2 * l.most, bound, bound + 1, 65535} {
			s := ahead + listHead(n) + strings.Repeat(one, n) + behind
			code, at := api.OK, 0
			switch {
			case n > bound:
				code, at = api.ErrLong, len(ahead)
			case n > l.most:
				code = api.ErrLong
			}
			if code == api.OK {
				if got := wantAsReference(t, l.name, s); got != api.OK {
					t.Fatalf("a list of %d, of %d that may be: %d", n, l.most, got)
				}
				continue
			}
			for _, s := range []string{s, ahead + listHead(n), ahead + listHead(n) + "\xc1", s + "\x00"} {
				wantFault(t, l.name, s, code, at)
			}
		}
		for _, laid := range []string{"\xdc\x00\x01" + one, "\xdc\x00\x00", "\xdc\x00\x0f"} {
			wantFault(t, l.name, ahead+laid, api.ErrForm, len(ahead))
		}
	}
}

// P7.2: what is lacking of a list, and what is wrong with the last one of it, is told in its turn.
func TestListsEnds(t *testing.T) {
	for _, l := range lists {
		ahead, one := bytesOf(t, l.ahead), bytesOf(t, l.one)
		n := min(l.most, 640)
		some := ahead + listHead(n) + strings.Repeat(one, n-1)
		wantFault(t, l.name, some, api.ErrShort, len(some))
		wantFault(t, l.name, some+"\xc1", api.ErrForm, len(some))
		wantFault(t, l.name, some+"\xa1", api.ErrForm, len(some))
	}
}

// P7.2: where several things are wrong, the first one that is met is told.
func TestWhichIsFirst(t *testing.T) {
	wantAll(t, []wrong{
		{"Slot", "82 a1 6c 00 a1 73 cc 01", api.ErrForm, 0},             // a 0, ahead of a number not laid shortest
		{"Slot", "82 a1 6c cc 01 a1 73 00", api.ErrForm, 3},             // and the other way round
		{"Slot", "82 a1 7a cc 01 a1 73 00", api.ErrForm, 0},             // a key, ahead of what stands under it
		{"Slot", "82 a1 6c 01 a1 6c cc 01", api.ErrForm, 0},             // twice, likewise
		{"Slot", "82 a1 6c 01 05", api.ErrForm, 4},                      // no key
		{"Slot", "81 a1 6c 00 00", api.ErrForm, 0},                      // ahead of what stands behind
		{"Slot", "81 a1 6c 05 00", api.ErrForm, 4},                      // that alone
		{"Slot", "81 a1 73 02 00", api.ErrForm, 0},                      // likewise
		{"Slot", "82 a1 6c 05", api.ErrShort, 4},                        // fewer pairs than there should be
		{"Slot", "81 a1 6c 05 a1 73 01", api.ErrForm, 4},                // more
		{"Slot", "81 a1 67 82 a1 70 dc 00 11 a1 76 90", api.ErrLong, 0}, // a list that has too many, ahead of all behind
		{"Slot", "81 a1 67 82 a1 70 90 a1 76 dc 00 44", api.ErrForm, 0},
		{"Slot", "81 a1 67 81 a1 70 dc 28 01", api.ErrLong, 6},
		{"Slot", "81 a1 67 81 a1 70 dc 00 10", api.ErrShort, 9},
		{"Part", "82 a1 72 c4 1f R", api.ErrForm, 0}, // 31 bytes, ahead of the lacking pair
		{"Part", "81 a1 72 c4 40 R", api.ErrShort, 3},
		{"Part", "81 a1 72 c4 20 R c1", api.ErrForm, 37},
		{"Cert", "81 a1 70 dc 02 81", api.ErrLong, 0}, // ahead of the root that is not there
		{"Cert", "81 a1 70 91 00", api.ErrForm, 0},
		{"Cert", "82 a1 63 c4 20 X a1 70 dc 28 01", api.ErrLong, 39},
		{"Cert", "82 a1 50 dc 28 01 a1 63 c4 20 X", api.ErrLong, 3},
		{"Cert", "82 a1 63 c4 20 X a1 72 91 81 a1 71 81 a1 72 c4 1f Q", api.ErrForm, 0},
		{"Cert", "82 a1 63 c4 20 X a1 72 91 81 a1 70 cc 01", api.ErrForm, 43},
		{"Msg", "83 a1 68 c4 20 H a1 6c 00 a1 76 c4 21 V", api.ErrForm, 0},
		{"Msg", "83 a1 68 c4 20 H a1 6c 01 a1 76 c4 21 V", api.ErrShort, 42},
	})
}

// several are bytes of things, short and long ones.
func several(t *testing.T) map[string][]string {
	t.Helper()
	all := map[string][]string{}
	add := func(x any) {
		s, e := layIt(x)
		if e != api.OK {
			t.Fatalf("%s: %d", told(x), e)
		}
		all[nameOf(x)] = append(all[nameOf(x)], s)
	}
	for _, x := range []any{
		wholePart, wholeSlot, wholeCert, wholeMsg, wholeHeader,
		api.Part{Root: d}, api.Slot{}, api.Slot{Signed: true}, api.Cert{Root: d}, api.Msg{Headers: d, Parts: d}, api.Header{Prev: d, Txns: d, Seed: d},
		api.Slot{Sig: api.Sig{Wots: many(20), Path: many(16)}}, api.Cert{Root: d, Coins: rising(40), Reveals: reveals(4), PartProof: many(3)},
		api.Part{Root: full("\x80"), Weight: 1 << 63}, api.Slot{L: 0x8080},
	} {
		add(x)
	}
	return all
}

// P7.2, P7.3: bytes that are cut off at every place; bytes with one more behind; a thing twice.
func TestCutOffAndBehind(t *testing.T) {
	for name, all := range several(t) {
		for _, s := range all {
			if code := wantAsReference(t, name, s); code != api.OK {
				t.Fatalf("%s: %d", short(s), code)
			}
			for n := range len(s) {
				if code := wantAsReference(t, name, s[:n]); code != api.ErrShort {
					t.Fatalf("cut off behind %d bytes of %s: %d", n, short(s), code)
				}
			}
			for b := range 256 {
				wantFault(t, name, s+string([]byte{byte(b)}), api.ErrForm, len(s))
			}
			wantFault(t, name, s+s, api.ErrForm, len(s))
			wantFault(t, name, s+"\xcc", api.ErrForm, len(s))
		}
	}
}

// P7.2: bytes of one sort of thing, read as another one's.
func TestOtherSorts(t *testing.T) {
	for _, all := range several(t) {
		for _, s := range all {
			for _, name := range names {
				wantAsReference(t, name, s)
			}
		}
	}
}

// P7.2, P7.3: all rows of up to two bytes, and each byte of things replaced by each other one.
func TestEachByte(t *testing.T) {
	for _, name := range names {
		for n := range 256 {
			wantAsReference(t, name, string([]byte{byte(n)}))
			for m := range 256 {
				wantAsReference(t, name, string([]byte{byte(n), byte(m)}))
			}
		}
	}
	for name, all := range several(t) {
		for _, s := range all {
			if len(s) > 400 {
				continue // they take their turn among the changed ones
			}
			for at := range len(s) {
				for b := range 256 {
					wantAsReference(t, name, s[:at]+string([]byte{byte(b)})+s[at+1:])
				}
			}
		}
	}
}

// changed is s with a few pieces of it left out, doubled, or replaced. The seeds are fixed, so that a failure comes again.
func changed(draw *rand.Rand, s string) string {
	b := []byte(s)
	for range 1 + draw.Intn(3) {
		at := draw.Intn(len(b) + 1)
		to := min(len(b), at+draw.Intn(40))
		switch draw.Intn(4) {
		case 0:
			b = slices.Delete(b, at, to)
		case 1:
			b = slices.Insert(b, at, slices.Clone(b[at:to])...)
		case 2:
			b = slices.Insert(b, at, "\x00\x01\x80\x81\x90\x91\xa1\xc4\xccPSckpqrvw"[draw.Intn(18)])
		case 3:
			if at < len(b) {
				b[at] += byte(draw.Intn(3)) - 1
			}
		}
	}
	return string(b)
}

// P7.2, P7.3: things' bytes with changes, against the reference.
func TestChanged(t *testing.T) {
	draw := rand.New(rand.NewSource(3))
	for _, name := range names {
		all := several(t)[name]
		for range 4000 {
			wantAsReference(t, name, changed(draw, all[draw.Intn(len(all))]))
		}
	}
}

// nearly lays what is nearly a thing of that name: each now and then a rule of the chapter is broken.
type nearly struct {
	*rand.Rand
	w *pack.Writer
}

// rarely is so now and then.
func (n nearly) rarely() bool { return n.Intn(40) == 0 }

func (n nearly) thing(name string) {
	var keys []string
	for _, e := range table[name] {
		if e.needed() && !n.rarely() || n.Intn(2) == 0 {
			keys = append(keys, e.key)
		}
	}
	if n.rarely() {
		keys = append(keys, []string{"", "a", "l", "p", "w", "z", "rr"}[n.Intn(7)])
	}
	if n.rarely() {
		n.Shuffle(len(keys), func(i, j int) { keys[i], keys[j] = keys[j], keys[i] })
	}
	pairs := len(keys)
	if n.rarely() {
		pairs += n.Intn(2)
	}
	n.w.Map(pairs)
	for _, key := range keys {
		n.w.Str(key)
		if e, ok := entryOf(name, key); ok {
			n.value(e.what, e.most)
		} else {
			n.w.Num(1)
		}
	}
}

func (n nearly) value(what string, most int) {
	if n.Intn(200) == 0 {
		what = []string{"number", "yes", "digest", "Sig", "[]number"}[n.Intn(5)]
	}
	if what[0] == '[' {
		n.list(what[2:], most)
		return
	}
	switch what {
	case "number":
		if !n.rarely() {
			n.w.Num(n.Uint64()>>n.Intn(64) | 1)
		} else {
			n.w.Num(0)
		}
	case "yes":
		if !n.rarely() {
			n.w.Num(1)
		} else {
			n.w.Num(uint64(n.Intn(3)))
		}
	case "digest":
		if !n.rarely() {
			n.w.Bin(d)
		} else {
			n.w.Bin(strings.Repeat("d", []int{0, 31, 33, 256}[n.Intn(4)]))
		}
	default:
		n.thing(what)
	}
}

func (n nearly) list(what string, most int) {
	size := 1 + n.Intn(3)
	if n.rarely() {
		size = []int{0, 16, min(most, 700), min(most, 700) + 1}[n.Intn(4)]
	}
	n.w.List(size)
	for range size {
		n.value(what, 0)
	}
}

// P7.2, P7.3: what is nearly a thing, against the reference: of each answer there are some.
func TestNearly(t *testing.T) {
	for i, name := range names {
		n := nearly{Rand: rand.New(rand.NewSource(int64(4 + i)))}
		counts := map[api.Errno]int{}
		for range 6000 {
			n.w = pack.New()
			n.thing(name)
			s := n.w.Text()
			if n.rarely() {
				s += "\x00"
			}
			counts[wantAsReference(t, name, s)]++
		}
		if counts[api.OK] < 1000 || counts[api.ErrForm] < 100 || counts[api.ErrShort] == 0 {
			t.Errorf("%s: the answers are %v", name, counts)
		}
	}
}

// P7.1, P7.3: a certificate that is as large as one may be comes back; it is none without its last byte, or with one more.
func TestLargest(t *testing.T) {
	c := api.Cert{Root: d, Signed: 1<<64 - 1, Coins: rising(640), SlotProof: many(10240), PartProof: many(10240)}
	for i := range 640 {
		sig := api.Sig{Index: 63, Wots: many(67), Path: many(16)}
		c.Reveals = append(c.Reveals, api.Reveal{Pos: uint64(i), Slot: api.Slot{L: uint64(i), Signed: true, Sig: sig}, Part: wholePart})
	}
	layAsReference(t, c)
	s, _ := wire.Cert(c)
	wantFault(t, "Cert", s+"\x00", api.ErrForm, len(s))
	wantFault(t, "Cert", s[:len(s)-1], api.ErrShort, len(s)-9)
}

// P7.2: faults are new: who changes one changes no other one.
func TestFaultsAreNew(t *testing.T) {
	for _, s := range []string{"", "\x81\xa1l\x00", "\x81\xa1g\x81\xa1p\xdc\x00\x11", "\x80\x80"} {
		_, first := wire.ReadSlot(s)
		before := *first.(*api.Fault)
		*first.(*api.Fault) = api.Fault{Code: api.ErrWord, At: -1}
		if _, again := wire.ReadSlot(s); *again.(*api.Fault) != before {
			t.Errorf("%s: %v, and then %v", short(s), before, again)
		}
	}
}

// P7.2: many at once answer as one does.
func TestAtOnce(t *testing.T) {
	s, _ := wire.Cert(wholeCert)
	done := make(chan string)
	for i := range 16 {
		go func() {
			for n := range len(s) {
				if _, err := wire.ReadCert(s[:n]); err == nil {
					done <- fmt.Sprintf("%d: cut off behind %d bytes", i, n)
					return
				}
			}
			c, err := wire.ReadCert(s)
			if err != nil || !reflect.DeepEqual(c, wholeCert) {
				done <- fmt.Sprintf("%d: %v", i, err)
				return
			}
			done <- ""
		}()
	}
	for range 16 {
		if told := <-done; told != "" {
			t.Error(told)
		}
	}
}
