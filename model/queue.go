package model

import (
	"slices"

	"reclaim/api"
)

// queue has its values in the order in which they go out.
type queue struct {
	values []int
}

func newQueue(values []int) *queue { return &queue{values: slices.Clone(values)} }

func (x *queue) answers(c api.Call) api.Answer {
	switch {
	case c.Op == api.OpEnqueue:
		return only(api.AnswerDone)
	case len(x.values) == 0:
		return only(api.AnswerEmpty)
	}
	return value(x.values[0])
}

func (x *queue) leave(c api.Call) {
	switch {
	case c.Op == api.OpEnqueue:
		x.values = append(x.values, c.Arg)
	case len(x.values) > 0:
		x.values = x.values[1:]
	}
}
