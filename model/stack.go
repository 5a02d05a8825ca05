package model

import (
	"slices"

	"reclaim/api"
)

// stack has its values with the top behind all others, where it costs nothing to put one on it; contents
// have it ahead of them.
type stack struct {
	values []int
}

func newStack(fromTop []int) *stack { return &stack{values: turned(fromTop)} }

// turned is a new list with the last one ahead.
func turned(list []int) []int {
	list = slices.Clone(list)
	slices.Reverse(list)
	return list
}

func (x *stack) answers(c api.Call) api.Answer {
	switch {
	case c.Op == api.OpPush:
		return only(api.AnswerDone)
	case len(x.values) == 0:
		return only(api.AnswerEmpty)
	}
	return value(x.values[len(x.values)-1])
}

func (x *stack) leave(c api.Call) {
	switch {
	case c.Op == api.OpPush:
		x.values = append(x.values, c.Arg)
	case len(x.values) > 0:
		x.values = x.values[:len(x.values)-1]
	}
}
