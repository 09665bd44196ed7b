package wire_test

import (
	"encoding/hex"
	"errors"
	"fmt"
	"reflect"
	"strconv"
	"strings"
	"testing"

	"sextant/api"
	"sextant/pack"
	"sextant/wire"
)

// names of the things that have calls of their own.
var names = []string{"Part", "Slot", "Cert", "Msg", "Header"}

var kinds = map[string]reflect.Type{
	"Part": reflect.TypeFor[api.Part](), "Slot": reflect.TypeFor[api.Slot](), "Cert": reflect.TypeFor[api.Cert](),
	"Msg": reflect.TypeFor[api.Msg](), "Header": reflect.TypeFor[api.Header](),
}

func nameOf(x any) string { return reflect.TypeOf(x).Name() }

// layIt asks the call that lays such a thing.
func layIt(x any) (string, api.Errno) {
	switch x := x.(type) {
	case api.Part:
		return wire.Part(x)
	case api.Slot:
		return wire.Slot(x)
	case api.Cert:
		return wire.Cert(x)
	case api.Msg:
		return wire.Msg(x)
	}
	return wire.Header(x.(api.Header))
}

// readIt asks the call that reads a thing of that name.
func readIt(name, s string) (any, error) {
	switch name {
	case "Part":
		return wire.ReadPart(s)
	case "Slot":
		return wire.ReadSlot(s)
	case "Cert":
		return wire.ReadCert(s)
	case "Msg":
		return wire.ReadMsg(s)
	}
	return wire.ReadHeader(s)
}

// full is a letter, as often as a digest has bytes.
func full(letter string) string { return strings.Repeat(letter, 32) }

// many are n digests, each one another one.
func many(n int) (all []string) {
	for i := range n {
		all = append(all, fmt.Sprintf("%032d", i))
	}
	return all
}

// rising are n numbers, 0 the first one.
func rising(n int) (all []uint64) {
	for i := range n {
		all = append(all, uint64(i)*uint64(i)*uint64(i))
	}
	return all
}

// reveals are n of them, of all sorts.
func reveals(n int) (all []api.Reveal) {
	for i := range n {
		x := api.Reveal{Pos: uint64(i), Part: api.Part{Root: full("q"), Weight: uint64(i) * 99}}
		if i%3 == 1 {
			x.Slot = api.Slot{L: uint64(i), Signed: true, Sig: api.Sig{Wots: many(2), Path: many(1)}}
		}
		all = append(all, x)
	}
	return all
}

// short is enough of a text to find a fault by.
func short(s string) string {
	return hex.EncodeToString([]byte(s[:min(len(s), 150)])) + fmt.Sprintf(" (%d bytes)", len(s))
}

// told is a thing, as long as it is short.
func told(x any) string {
	s := strconv.QuoteToASCII(fmt.Sprintf("%+v", x))
	return s[:min(len(s), 600)]
}

// bytesOf are those that are written to the base 16, with blanks between; a capital letter stands for a digest's 32.
func bytesOf(t *testing.T, written string) string {
	t.Helper()
	var text strings.Builder
	for _, word := range strings.Fields(written) {
		if word >= "G" && word <= "Z" {
			text.WriteString(full(strings.ToLower(word)))
			continue
		}
		s, err := hex.DecodeString(word)
		if err != nil {
			t.Fatal(err)
		}
		text.Write(s)
	}
	return text.String()
}

// same holds two things against each other; a list without elements is one that is nil.
func same(x, y any) bool { return alike(reflect.ValueOf(x), reflect.ValueOf(y)) }

func alike(v, w reflect.Value) bool {
	if v.Type() != w.Type() {
		return false
	}
	switch v.Kind() {
	case reflect.Struct:
		for i := range v.NumField() {
			if !alike(v.Field(i), w.Field(i)) {
				return false
			}
		}
		return true
	case reflect.Slice:
		if v.Len() != w.Len() {
			return false
		}
		for i := range v.Len() {
			if !alike(v.Index(i), w.Index(i)) {
				return false
			}
		}
		return true
	}
	return v.Equal(w)
}

// wantLaid asks that a thing has just these bytes, and that they are read as that thing.
func wantLaid(t *testing.T, x any, want string) {
	t.Helper()
	got, e := layIt(x)
	if e != api.OK {
		t.Fatalf("%s %s: the answer is %d", nameOf(x), told(x), e)
	}
	if got != want {
		t.Fatalf("%s %s: the bytes are\n%s, not\n%s", nameOf(x), told(x), short(got), short(want))
	}
	back, err := readIt(nameOf(x), want)
	if err != nil {
		t.Fatalf("%s: bytes that were laid: %v, %s", nameOf(x), err, short(want))
	}
	if !same(back, x) {
		t.Fatalf("%s: what comes back is %s, not %s", nameOf(x), told(back), told(x))
	}
}

// wantRefused asks that a thing may not be.
func wantRefused(t *testing.T, x any) {
	t.Helper()
	if got, e := layIt(x); e != api.ErrArg || got != "" {
		t.Fatalf("%s %s: the answer is %s, %d, not ErrArg", nameOf(x), told(x), short(got), e)
	}
}

// wantFault asks that bytes are none of that thing's: by a fault, found by its type, with a zero thing beside it.
func wantFault(t *testing.T, name, s string, code api.Errno, at int) {
	t.Helper()
	x, err := readIt(name, s)
	var f *api.Fault
	if !errors.As(err, &f) {
		t.Fatalf("%s of %s: the error is %v, and no fault", name, short(s), err)
	}
	if f.Code != code || f.At != at {
		t.Fatalf("%s of %s: the fault is %d At %d, not %d At %d", name, short(s), f.Code, f.At, code, at)
	}
	if _, ok := err.(*api.Fault); !ok || !errors.Is(err, code) {
		t.Fatalf("%s of %s: the fault is not %d by its number", name, short(s), code)
	}
	if !reflect.ValueOf(x).IsZero() {
		t.Fatalf("%s of %s: a thing with an error: %s", name, short(s), told(x))
	}
}

// wantAsReference holds what is read against the reference; what was read must be laid again just so.
func wantAsReference(t *testing.T, name, s string) (code api.Errno) {
	t.Helper()
	want, f := refRead(s, name)
	if f != nil {
		wantFault(t, name, s, f.Code, f.At)
		return f.Code
	}
	x, err := readIt(name, s)
	if err != nil {
		t.Fatalf("%s of %s: %v, though it is %s", name, short(s), err, told(want))
	}
	if !same(x, want.Interface()) {
		t.Fatalf("%s of %s: it is %s, not %s", name, short(s), told(x), told(want))
	}
	wantLaid(t, x, s)
	return api.OK
}

// layAsReference holds what is laid against the reference.
func layAsReference(t *testing.T, x any) (may bool) {
	t.Helper()
	w := pack.New()
	if !refLay(w, nameOf(x), reflect.ValueOf(x)) {
		wantRefused(t, x)
		return false
	}
	wantLaid(t, x, w.Text())
	return true
}
