package attach

import (
	"wicketgate/api"
)

// refusal is what a call that is refused leaves by.
type refusal struct {
	why api.Errno
}

// insist refuses the call, if it does not hold.
func insist(holds bool, why api.Errno) {
	if !holds {
		panic(refusal{why})
	}
}

// unlessRefused answers what do answers; nothing and the error, if it is refused.
func unlessRefused[T any](do func() T) (x T, e api.Errno) {
	defer func() {
		// Whatever else it may leave by is no refusal, and goes on its way.
		if left := recover(); left != nil {
			e = left.(refusal).why
		}
	}()
	return do(), api.OK
}
