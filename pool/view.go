package pool

import (
	"iter"

	"reclaim/api"
	"reclaim/chain"
	"reclaim/word"
)

// Whether the links of a chain may have marks.
const (
	plain  = false
	marked = true
)

// view is a memory's words on one's way through them. Any words may be handed in: so each is looked at
// ahead of its being followed, and one that no run could leave ends the way.
type view struct {
	config api.Config
	words  []uint64
	come   []bool // of each slot, whether one has come to it
	odd    bool   // one has come to something that no run could leave
}

// viewOf is a view of words; an error, if no memory of that configuration has so many.
func viewOf(c api.Config, words []uint64) (*view, api.Errno) {
	size, e := word.Size(c)
	if e != api.OK {
		return nil, e
	}
	if len(words) != size {
		return nil, api.ErrRange
	}
	return &view{config: c, words: words, come: make([]bool, c.Slots)}, api.OK
}

// shaped is what was read by a view, unless what was come to is odd: then it tells nothing.
func shaped[T any](v *view, read T) (T, api.Errno) {
	if v.odd {
		var nothing T
		return nothing, api.ErrShape
	}
	return read, api.OK
}

// word is the word of a place that there is.
func (v *view) word(r api.Region, i int) uint64 {
	return v.words[chain.Addr(v.config, api.Place{Region: r, I: i})]
}

// value is a slot's value, or key.
func (v *view) value(slot int) int {
	return word.Value(v.word(api.RegionValue, slot))
}

// follow comes to the slot that a link names, and tells whether the link has a mark.
func (v *view) follow(w uint64, marks bool) (int, bool) {
	slot, mark, e := word.Unlink(w)
	if e != api.OK || mark && !marks {
		v.odd = true
		return chain.None, false
	}
	return v.enter(slot), mark
}

// enter comes to a slot: each may come once. It answers chain.None where the way ends.
func (v *view) enter(slot int) int {
	switch {
	case slot == chain.None:
		return chain.None
	case slot >= v.config.Slots || v.come[slot]:
		v.odd = true
		return chain.None
	}
	v.come[slot] = true
	return slot
}

// along gives the slots from one on by their words of a region, each with its word's mark.
func (v *view) along(r api.Region, slot int, marks bool) iter.Seq2[int, bool] {
	return func(yield func(slot int, mark bool) bool) {
		for slot != chain.None {
			next, mark := v.follow(v.word(r, slot), marks)
			if !yield(slot, mark) {
				return
			}
			slot = next
		}
	}
}

// chain gives the slots of the chain that begins with a region's word, each with its link's mark. That
// word itself has none in any chain.
func (v *view) chain(r api.Region, i int, marks bool) iter.Seq2[int, bool] {
	first, _ := v.follow(v.word(r, i), plain)
	return v.along(api.RegionLink, first, marks)
}
