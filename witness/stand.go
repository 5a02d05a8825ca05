package witness

import "reclaim/api"

// group is some of the calls of a search, a bit for each.
type group uint

func (g group) has(i int) bool { return g&(1<<i) != 0 }

func (g group) with(i int) group { return g | 1<<i }

func (g group) within(other group) bool { return g&^other == 0 }

// stand is how far an order has come: which calls stand in it, and what they have left.
type stand struct {
	placed group
	left   api.Contents
}

// sight is a stand that can be held against others: where two orders come to the same one, they go on alike. A
// call leaves at most one entry, and a table's has two numbers; the others are the calls and the lists' lengths.
type sight [1 + 5 + 2*api.MaxSearch]int

func (at stand) sight() sight {
	var out sight
	room := out[:]
	put := func(numbers ...int) { room = room[copy(room, numbers):] }
	put(int(at.placed))
	for _, list := range [][]int{at.left.Cell, at.left.Stack, at.left.Queue, at.left.Set} {
		put(len(list))
		put(list...)
	}
	put(len(at.left.Table))
	for _, p := range at.left.Table {
		put(p.Key, p.Value)
	}
	return out
}
