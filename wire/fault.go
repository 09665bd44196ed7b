package wire

import (
	"errors"

	"sextant/api"
)

// must gives up, unless it holds: a place is told by a reader alone.
func must(holds bool, code api.Errno) {
	if !holds {
		panic(&api.Fault{Code: code})
	}
}

func sure[T any](told T, err error) T {
	if err != nil {
		panic(err)
	}
	return told
}

// faultOf is what was given up. What neither must nor sure gave up would be a mistake of this package, and must not
// pass for something that is well.
func faultOf(wrong error) *api.Fault {
	var given *api.Fault
	if errors.As(wrong, &given) {
		return given
	}
	return &api.Fault{Code: api.ErrOther}
}
