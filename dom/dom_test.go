package dom_test

import (
	"crypto/sha256"
	"encoding/binary"
	"math"
	"math/rand"
	"slices"
	"strings"
	"testing"

	"sextant/dom"
	"sextant/sha"
)

// call is what Frame and Hash are asked with.
type call struct {
	tag   string
	parts []string
}

// reference is the frame, put together by the library's own means.
func (c call) reference() string {
	frame := append([]byte{byte(len(c.tag))}, c.tag...)
	for _, part := range c.parts {
		frame = binary.BigEndian.AppendUint64(frame, uint64(len(part)))
		frame = append(frame, part...)
	}
	return string(frame)
}

// read takes a frame apart again; ok is false if bytes lack, or are left.
func read(frame string) (c call, ok bool) {
	if frame == "" || len(frame) < 1+int(frame[0]) {
		return call{}, false
	}
	end := 1 + int(frame[0])
	c.tag, frame = frame[1:end], frame[end:]
	for frame != "" {
		if len(frame) < 8 {
			return call{}, false
		}
		size := binary.BigEndian.Uint64([]byte(frame[:8]))
		frame = frame[8:]
		if size > uint64(len(frame)) {
			return call{}, false
		}
		c.parts, frame = append(c.parts, frame[:size]), frame[size:]
	}
	return c, true
}

func wantFrame(t *testing.T, c call) {
	t.Helper()
	want := c.reference()
	got := dom.Frame(c.tag, c.parts...)
	if got != want {
		t.Errorf("Frame of %.40q and %d parts has %d bytes: %.80x, not %d: %.80x", c.tag, len(c.parts), len(got), got, len(want), want)
	}
	sum := sha256.Sum256([]byte(want))
	if hash := dom.Hash(c.tag, c.parts...); hash != string(sum[:]) {
		t.Errorf("Hash of %.40q and %d parts is %x, not %x", c.tag, len(c.parts), hash, sum)
	}
}

func wantNothing(t *testing.T, c call) {
	t.Helper()
	if got := dom.Frame(c.tag, c.parts...); got != "" {
		t.Errorf("Frame of a tag of %d bytes and %d parts is %x, not nothing", len(c.tag), len(c.parts), got)
	}
	if got := dom.Hash(c.tag, c.parts...); got != "" {
		t.Errorf("Hash of a tag of %d bytes and %d parts is %x, not nothing", len(c.tag), len(c.parts), got)
	}
}

// wantUnlike asks that two calls that are not alike have neither frame nor hash in common.
func wantUnlike(t *testing.T, a, b call) {
	t.Helper()
	if dom.Frame(a.tag, a.parts...) == dom.Frame(b.tag, b.parts...) {
		t.Errorf("%.80q and %.80q have one frame", a, b)
	}
	if dom.Hash(a.tag, a.parts...) == dom.Hash(b.tag, b.parts...) {
		t.Errorf("%.80q and %.80q have one hash", a, b)
	}
}

// P2.1: the chapter's example, and numbers at the edges of their bytes.
func TestNumExamples(t *testing.T) {
	examples := []struct {
		n    uint64
		want string
	}{
		{258, "\x00\x00\x00\x00\x00\x00\x01\x02"},
		{0, "\x00\x00\x00\x00\x00\x00\x00\x00"},
		{1, "\x00\x00\x00\x00\x00\x00\x00\x01"},
		{127, "\x00\x00\x00\x00\x00\x00\x00\x7f"},
		{128, "\x00\x00\x00\x00\x00\x00\x00\x80"},
		{255, "\x00\x00\x00\x00\x00\x00\x00\xff"},
		{256, "\x00\x00\x00\x00\x00\x00\x01\x00"},
		{65535, "\x00\x00\x00\x00\x00\x00\xff\xff"},
		{65536, "\x00\x00\x00\x00\x00\x01\x00\x00"},
		{0x0123456789abcdef, "\x01\x23\x45\x67\x89\xab\xcd\xef"},
		{math.MaxInt64, "\x7f\xff\xff\xff\xff\xff\xff\xff"},
		{1 << 63, "\x80\x00\x00\x00\x00\x00\x00\x00"},
		{math.MaxUint64, "\xff\xff\xff\xff\xff\xff\xff\xff"},
	}
	for _, e := range examples {
		if got := dom.Num(e.n); got != e.want {
			t.Errorf("Num of %d is %x, not %x", e.n, got, e.want)
		}
	}
}

// P2.1: around every power of two, and of any numbers; the seed is fixed, so that a failure comes again.
func TestNumOfAnyNumber(t *testing.T) {
	want := func(n uint64) {
		t.Helper()
		if got := dom.Num(n); got != string(binary.BigEndian.AppendUint64(nil, n)) {
			t.Errorf("Num of %d is %x", n, got)
		}
	}
	for shift := range 64 {
		power := uint64(1) << shift
		want(power - 1)
		want(power)
		want(power + 1)
	}
	draw := rand.New(rand.NewSource(1))
	for range 1000 {
		want(draw.Uint64())
	}
}

// P2.2: the chapter's examples, and the one of the whole.
func TestFrameExamples(t *testing.T) {
	want := "\x01a" + "\x00\x00\x00\x00\x00\x00\x00\x01b" + "\x00\x00\x00\x00\x00\x00\x00\x02cd"
	if got := dom.Frame("a", "b", "cd"); got != want {
		t.Errorf("Frame of a, and b, cd is %x, not %x", got, want)
	}
	text := "\x01t" + "\x00\x00\x00\x00\x00\x00\x00\x02ab" + "\x00\x00\x00\x00\x00\x00\x00\x01c"
	if got := dom.Hash("t", "ab", "c"); len(text) != 21 || got != sha.Sum(text) || len(got) != 32 {
		t.Errorf("Hash of t, and ab, c is %x, not %x", got, sha.Sum(text))
	}
	wantNothing(t, call{"", []string{"b", "cd"}})
	wantNothing(t, call{strings.Repeat("a", 17), []string{"b", "cd"}})
}

// partLists are lists of parts at the edges: none, empty ones, sizes that take a second and a third byte.
func partLists() [][]string {
	long := func(n int) string { return strings.Repeat("p", n-1) + "\x00" }
	return [][]string{
		nil,
		{},
		{""},
		{"", ""},
		{"", "x", ""},
		{"\x00"},
		{"\xff\xfe", "\x80"},
		{long(255)},
		{long(256)},
		{long(257), ""},
		{"", long(65535), long(65536), "x"},
		slices.Repeat([]string{"", "y", "zz"}, 200),
	}
}

// P2.2: tags of every size that may be, with parts at the edges.
func TestFramesOfTagsThatMayBe(t *testing.T) {
	for size := 1; size <= 16; size++ {
		tag := strings.Repeat("t", size-1) + "\xff"
		wantFrame(t, call{tag, []string{"ab", "", "c"}})
	}
	for _, tag := range []string{"t", "\x00", "sixteen bytes ..", strings.Repeat("\xc3\xa9", 8)} {
		for _, parts := range partLists() {
			wantFrame(t, call{tag, parts})
		}
	}
	wantFrame(t, call{"t", []string{strings.Repeat("p", 1<<24+3), "x"}}) // a size of four bytes
}

// P2.2: tags of no bytes and of more than 16, also where their size would wrap in a byte, or where they have few runes.
func TestNothingOfOtherTags(t *testing.T) {
	tags := []string{"", "seventeen bytes..", strings.Repeat("\xc3\xa9", 9)}
	for _, size := range []int{17, 18, 32, 127, 128, 255, 256, 257, 258, 272, 65536, 65537} {
		tags = append(tags, strings.Repeat("t", size))
	}
	for _, tag := range tags {
		for _, parts := range [][]string{nil, {}, {""}, {"ab", "c"}} {
			wantNothing(t, call{tag, parts})
		}
	}
}

// P2.2 and R4: no parts, a list that is nil, and one without elements are the same; an empty part is another thing.
func TestNoParts(t *testing.T) {
	none := dom.Frame("tag")
	if none != "\x03tag" {
		t.Errorf("Frame of no parts is %x", none)
	}
	for _, parts := range [][]string{nil, {}, make([]string, 0, 4)} {
		if dom.Frame("tag", parts...) != none || dom.Hash("tag", parts...) != dom.Hash("tag") {
			t.Error("lists without parts differ")
		}
	}
	if dom.Hash("tag") != sha.Sum("\x03tag") {
		t.Errorf("Hash of no parts is %x", dom.Hash("tag"))
	}
	wantUnlike(t, call{"tag", nil}, call{"tag", []string{""}})
}

// R5 and R6: a list that is handed in stays as it was, beyond its end too, and the same call answers the same.
func TestPartsStayAsTheyWere(t *testing.T) {
	parts := []string{"ab", "", "c", "beyond"}
	before := slices.Clone(parts)
	frame, hash := dom.Frame("t", parts[:3]...), dom.Hash("t", parts[:3]...)
	if !slices.Equal(parts, before) {
		t.Errorf("parts are %q, not %q", parts, before)
	}
	parts[0] = "zz"
	if frame != (call{"t", before[:3]}).reference() || hash != sha.Sum(frame) {
		t.Error("what was answered has changed with the list")
	}
	if dom.Frame("t", before[:3]...) != frame || dom.Hash("t", before[:3]...) != hash {
		t.Error("the same call answers otherwise")
	}
}

// P2.3: pairs that differ only in where one part ends and the next one begins, or in what is part and what is tag.
func TestNoBytesGoOver(t *testing.T) {
	big := strings.Repeat("b", 300)
	pairs := []struct{ a, b call }{
		{call{"t", []string{"ab", "c"}}, call{"t", []string{"a", "bc"}}},
		{call{"t", []string{"abc"}}, call{"t", []string{"ab", "c"}}},
		{call{"t", []string{"abc"}}, call{"t", []string{"abc", ""}}},
		{call{"t", []string{"abc"}}, call{"t", []string{"", "abc"}}},
		{call{"t", []string{"", "abc"}}, call{"t", []string{"abc", ""}}},
		{call{"t", []string{"a", "", "b"}}, call{"t", []string{"a", "b", ""}}},
		{call{"t", []string{"ab", "c"}}, call{"t", []string{"c", "ab"}}},
		{call{"t", []string{"", ""}}, call{"t", []string{""}}},
		{call{"t", []string{big[:256], big[256:]}}, call{"t", []string{big[:255], big[255:]}}},
		{call{"t", []string{big[:256] + "x"}}, call{"t", []string{big[:256], "x"}}},
		{call{"t", []string{big[:256], ""}}, call{"t", []string{"", big[:256]}}},
		{call{"t", []string{"a", "b"}}, call{"t", []string{"a" + dom.Num(1) + "b"}}},
		{call{"t", []string{"", ""}}, call{"t", []string{dom.Num(0)}}},
		{call{"t", []string{"", ""}}, call{"t", []string{dom.Num(0), ""}}},
		{call{"ta", []string{"b"}}, call{"t", []string{"a", "b"}}},
		{call{"ta", []string{"b"}}, call{"t", []string{"ab"}}},
		{call{"ta", nil}, call{"t", []string{"a"}}},
		{call{"t", nil}, call{"u", nil}},
		{call{"t", nil}, call{"t\x00", nil}},
		{call{"t", []string{"a"}}, call{"t" + dom.Num(1) + "a", nil}},
		{call{"t", []string{"a"}}, call{"t", []string{"a\x00"}}},
	}
	for _, p := range pairs {
		wantUnlike(t, p.a, p.b)
	}
}

// P2.3: of every call with some short tags and at most three short parts, all frames and all hashes are unlike.
func TestAllShortCallsAreUnlike(t *testing.T) {
	texts := []string{""}
	for _, a := range []string{"\x00", "\x01", "a"} {
		texts = append(texts, a)
		for _, b := range []string{"\x00", "\x01", "a"} {
			texts = append(texts, a+b)
		}
	}
	lists := [][]string{nil}
	for from := 0; len(lists[from]) < 3; from++ {
		for _, text := range texts {
			lists = append(lists, append(slices.Clone(lists[from]), text))
		}
	}
	frames, hashes := map[string]call{}, map[string]call{}
	for _, tag := range texts[1:] {
		for _, parts := range lists {
			c := call{tag, parts}
			frame, hash := dom.Frame(tag, parts...), dom.Hash(tag, parts...)
			if other, there := frames[frame]; there {
				t.Fatalf("%q and %q have one frame", other, c)
			}
			if other, there := hashes[hash]; there {
				t.Fatalf("%q and %q have one hash", other, c)
			}
			frames[frame], hashes[hash] = c, c
		}
	}
}

// P2.3: a frame tells its call, so no two calls have it; the seed is fixed, so that a failure comes again.
func TestFrameTellsItsCall(t *testing.T) {
	draw := rand.New(rand.NewSource(2))
	text := func(size int) string {
		b := make([]byte, size)
		for i := range b {
			b[i] = byte(draw.Intn(3) * 127) // few values, so that parts look like sizes
		}
		return string(b)
	}
	for range 2000 {
		c := call{tag: text(1 + draw.Intn(16))}
		for range draw.Intn(8) {
			c.parts = append(c.parts, text(draw.Intn(20)*draw.Intn(20)))
		}
		wantFrame(t, c)
		told, ok := read(dom.Frame(c.tag, c.parts...))
		if !ok || told.tag != c.tag || !slices.Equal(told.parts, c.parts) {
			t.Fatalf("the frame of %q tells %q", c, told)
		}
	}
}
