package tower

import (
	"errors"
	"strconv"

	"reclaim/api"
)

// refusal is why a run has no transcript, as an error.
type refusal api.Errno

func (r refusal) Error() string { return "error " + strconv.Itoa(int(r)) }

// refusalOf is what a reading of a layer below answered, as an error; nil, if all is well.
func refusalOf(e api.Errno) error {
	if e == api.OK {
		return nil
	}
	return refusal(e)
}

// errnoOf is the first of a report's errors, in their order, that an error has in it.
func errnoOf(err error) api.Errno {
	for _, e := range [...]api.Errno{api.ErrConfig, api.ErrRun, api.ErrShape, api.ErrLong} {
		if errors.Is(err, refusal(e)) {
			return e
		}
	}
	return api.OK
}
