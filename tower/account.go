package tower

import (
	"errors"
	"iter"
	"strings"

	"reclaim/api"
	"reclaim/census"
	"reclaim/pool"
	"reclaim/word"
)

// used is how many slots of a pool are linked at the beginning.
const used = 1

// account is a run that can be told, and what its words hold.
type account struct {
	config api.Config
	run    api.Run
	held   api.Contents
	free   []int
}

// read is the account of a run, or why there is none.
func read(c api.Config, r api.Run) (*account, error) {
	if e := word.Check(c); e != api.OK {
		return nil, refusal(e)
	}
	if !census.May(c, used, r) {
		return nil, refusal(api.ErrRun)
	}
	held, ofObjects := pool.Look(c, r.Words)
	free, ofList := pool.Free(c, r.Words)
	if err := errors.Join(refusalOf(ofObjects), refusalOf(ofList)); err != nil {
		return nil, err
	}
	return &account{config: c, run: r, held: held, free: free}, nil
}

// part gives the lines of one part of a transcript.
type part func(a *account) iter.Seq[string]

// parts are all of them, by their numbers.
func parts() map[int]part {
	return map[int]part{
		1:  (*account).machine,
		2:  (*account).calls,
		3:  (*account).order,
		4:  (*account).objects,
		5:  (*account).freeList,
		6:  (*account).slots,
		7:  (*account).faults,
		8:  (*account).dishonest,
		9:  (*account).peaks,
		10: (*account).bounds,
		11: (*account).made,
	}
}

// told is the transcript. It is given up with the first line that is too much: a run may have any number of calls.
func (a *account) told() (string, error) {
	var text strings.Builder
	all := parts()
	for number := 1; number <= len(all); number++ {
		for line := range all[number](a) {
			if text.Len()+len(line) > api.MaxText {
				return "", refusal(api.ErrLong)
			}
			text.WriteString(line)
		}
	}
	return text.String(), nil
}
