package wire

import (
	"errors"
	"testing"

	"sextant/api"
	"sextant/pack"
)

// R1: what is no fault, and so would be a mistake of this package, neither gets out as a panic nor passes for a thing.
func TestMistakes(t *testing.T) {
	var none []int
	lack := errors.New("not one of ours")
	for what, mistake := range map[string]func(){
		"an error that is no fault": func() { panic(lack) },
		"an error of the language":  func() { none[0]++ },
	} {
		rowOf := func(p *api.Part) []field {
			return []field{always(field{
				key:   "k",
				there: func() bool { return true },
				lay:   func(*pack.Writer) { mistake() },
				read:  func(reader) { p.Keys = 5; mistake() },
			})}
		}
		if bytes, e := lay(rowOf(&api.Part{})); bytes != "" || e != api.ErrOther {
			t.Errorf("%s: laid as %x, %d", what, bytes, e)
		}
		p, err := read("\x81\xa1k\x05", rowOf)
		var f *api.Fault
		if !errors.As(err, &f) || *f != (api.Fault{Code: api.ErrOther}) || p != (api.Part{}) {
			t.Errorf("%s: read as %v, %v", what, p, err)
		}
	}
}
