package model

import (
	"slices"

	"reclaim/api"
)

// table has keys with values, by rising key.
type table struct {
	pairs []api.Pair
}

func newTable(pairs []api.Pair) *table { return &table{pairs: slices.Clone(pairs)} }

// find tells where a key is, or would be, and whether it is there.
func (x *table) find(key int) (int, bool) {
	return slices.BinarySearchFunc(x.pairs, api.Pair{Key: key}, byKey)
}

func (x *table) answers(c api.Call) api.Answer {
	at, has := x.find(c.Arg)
	switch {
	case c.Op == api.OpAdd:
		return whether(!has)
	case !has:
		return only(api.AnswerNo)
	}
	return value(x.pairs[at].Value)
}

func (x *table) leave(c api.Call) {
	at, has := x.find(c.Arg)
	switch {
	case c.Op == api.OpAdd && !has:
		x.pairs = slices.Insert(x.pairs, at, api.Pair{Key: c.Arg, Value: c.Data})
	case c.Op == api.OpRemove && has:
		x.pairs = slices.Delete(x.pairs, at, at+1)
	}
}
