package script

import (
	"errors"
	"strconv"

	"reclaim/api"
)

// fault is what is wrong with a text, as an error; of a text as a whole it stands alone.
type fault api.Errno

func (f fault) Error() string { return "error " + strconv.Itoa(int(f)) }

// lineFault is what is wrong with one line.
type lineFault struct {
	line int
	err  error
}

func (f lineFault) Error() string { return "line " + strconv.Itoa(f.line) + ": " + f.err.Error() }

func (f lineFault) Unwrap() error { return f.err }

// lineOf is the line that an error is about; 0: the text as a whole.
func lineOf(err error) int {
	var at lineFault
	if errors.As(err, &at) {
		return at.line
	}
	return 0
}

// errnoOf is the kind of fault that an error is of, whether a line is told with it or not.
func errnoOf(err error) api.Errno {
	var f fault
	if errors.As(err, &f) {
		return api.Errno(f)
	}
	return api.OK
}
