package model

import (
	"slices"

	"reclaim/api"
)

// cell has one value, or none as long as nothing was posted.
type cell struct {
	values []int
}

func newCell(values []int) *cell { return &cell{values: slices.Clone(values)} }

func (x *cell) answers(c api.Call) api.Answer {
	switch {
	case c.Op == api.OpPost:
		return only(api.AnswerDone)
	case len(x.values) == 0:
		return only(api.AnswerEmpty)
	}
	return value(x.values[0])
}

func (x *cell) leave(c api.Call) {
	if c.Op == api.OpPost {
		x.values = []int{c.Arg}
	}
}
