package split

import (
	"cmp"
	"math/bits"
	"slices"

	"reclaim/api"
	"reclaim/chain"
	"reclaim/word"
)

// Look is the keys that words hold, with their values.
func Look(s api.Split, words []uint64) ([]api.Pair, api.Errno) {
	v, e := viewOf(s, words)
	if e != api.OK {
		return nil, e
	}
	slices.SortFunc(v.pairs, func(a, b api.Pair) int { return cmp.Compare(a.Key, b.Key) })
	return v.pairs, api.OK
}

// Buckets are the numbers of the buckets that have been planted.
func Buckets(s api.Split, words []uint64) ([]int, api.Errno) {
	v, e := viewOf(s, words)
	if e != api.OK {
		return nil, e
	}
	var planted []int
	for bucket, slot := range v.slots {
		if slot != none {
			planted = append(planted, bucket)
		}
	}
	return planted, api.OK
}

// view is what was read out of words. Any words may be handed in: so each is looked at ahead of its being
// followed.
type view struct {
	config api.Config
	words  []uint64
	pairs  []api.Pair // the keys with their values, in the list's order
	slots  []int      // of each bucket, the slot of the list that has its place; none: there is none
}

// viewOf reads words; an error, if no run could leave them.
func viewOf(s api.Split, words []uint64) (*view, api.Errno) {
	if e := check(s); e != api.OK {
		return nil, e
	}
	if len(words) != addrBehind(s.Config, moreWords) {
		return nil, api.ErrRange
	}
	v := &view{config: s.Config, words: words, slots: slices.Repeat([]int{none}, s.Config.Buckets)}
	if !v.readList() || !v.sized() || !v.named() {
		return nil, api.ErrSplitShape
	}
	return v, api.OK
}

// word is the word of a place that there is.
func (v *view) word(r api.Region, i int) uint64 {
	return v.words[chain.Addr(v.config, api.Place{Region: r, I: i})]
}

// readList goes along the list, and tells whether it is one. All places are above bucket 0's, which has no slot;
// and that no slot comes twice needs no asking: its place would not rise.
func (v *view) readList() bool {
	next, last := v.word(api.RegionRoot, 0), placeOfBucket(0)
	if chain.Marked(next) {
		return false
	}
	for {
		slot, _, e := word.Unlink(next)
		switch {
		case e != api.OK || slot >= v.config.Slots:
			return false
		case slot == none:
			return true
		}
		place := word.Value(v.word(api.RegionValue, slot))
		if place <= last || !v.readSlot(slot, place) {
			return false
		}
		next, last = v.word(api.RegionLink, slot), place
	}
}

// readSlot reads a slot of the list, and tells whether it may stand at its place.
func (v *view) readSlot(slot int, place int) bool {
	marked := chain.Marked(v.word(api.RegionLink, slot))
	if key, e := Key(place); e == api.OK {
		if !marked {
			v.pairs = append(v.pairs, api.Pair{Key: key, Value: word.Value(v.word(api.RegionData, slot))})
		}
		return true
	}
	bucket := bucketAt(place, v.config.Buckets)
	if bucket == none || marked {
		return false
	}
	v.slots[bucket] = slot
	return true
}

// sized tells whether the number of buckets in use may be.
func (v *view) sized() bool {
	size := v.words[addrBehind(v.config, sizeWord)]
	return bits.OnesCount64(size) == 1 && size <= uint64(v.config.Buckets)
}

// named tells whether each bucket's word names the slot that stands in the list at its place, or none.
func (v *view) named() bool {
	for bucket, slot := range v.slots {
		named, mark, e := word.Unlink(v.word(api.RegionBucket, bucket))
		if e != api.OK || mark || named != none && named != slot {
			return false
		}
	}
	return true
}
