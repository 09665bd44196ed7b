package ladder

import "sextant/api"

// firstError asks nothing behind the first error: what is asked may lean on all that was asked ahead.
func firstError(asks ...func() api.Errno) api.Errno {
	for _, ask := range asks {
		if e := ask(); e != api.OK {
			return e
		}
	}
	return api.OK
}

func errorUnless(holds bool, e api.Errno) api.Errno {
	if holds {
		return api.OK
	}
	return e
}
