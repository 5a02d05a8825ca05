package model

import (
	"slices"

	"reclaim/api"
)

// set has the keys of the list, rising.
type set struct {
	keys []int
}

func newSet(keys []int) *set { return &set{keys: slices.Clone(keys)} }

func (x *set) answers(c api.Call) api.Answer {
	_, has := slices.BinarySearch(x.keys, c.Arg)
	if c.Op == api.OpInsert {
		return whether(!has)
	}
	return whether(has)
}

func (x *set) leave(c api.Call) {
	at, has := slices.BinarySearch(x.keys, c.Arg)
	switch {
	case c.Op == api.OpInsert && !has:
		x.keys = slices.Insert(x.keys, at, c.Arg)
	case c.Op == api.OpDelete && has:
		x.keys = slices.Delete(x.keys, at, at+1)
	}
}
