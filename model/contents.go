package model

import (
	"cmp"
	"slices"

	"reclaim/api"
)

// May tells whether contents may be.
func May(s api.Contents) bool {
	return len(s.Cell) <= 1 && rising(s.Set, cmp.Compare[int]) && rising(s.Table, byKey)
}

// rising tells whether each entry is above the one ahead of it.
func rising[T any](list []T, compare func(a, b T) int) bool {
	for i := 1; i < len(list); i++ {
		if compare(list[i-1], list[i]) >= 0 {
			return false
		}
	}
	return true
}

func byKey(a, b api.Pair) int { return cmp.Compare(a.Key, b.Key) }

// Same tells whether two contents are alike, whether they may be or not.
func Same(a api.Contents, b api.Contents) bool {
	return slices.Equal(a.Cell, b.Cell) &&
		slices.Equal(a.Stack, b.Stack) &&
		slices.Equal(a.Queue, b.Queue) &&
		slices.Equal(a.Set, b.Set) &&
		slices.Equal(a.Table, b.Table)
}

// Part is what of contents belongs to one object, all else empty.
func Part(s api.Contents, object int) (api.Contents, api.Errno) {
	if !May(s) {
		return api.Contents{}, api.ErrState
	}
	if object < 1 || object > objects {
		return api.Contents{}, api.ErrRange
	}
	var part api.Contents
	put(worldOf(s)[object-1], &part)
	return part, api.OK
}
