package pool

import (
	"cmp"
	"iter"
	"slices"

	"reclaim/api"
	"reclaim/chain"
	"reclaim/table"
	"reclaim/word"
)

// Look tells what the objects hold whose memory this is.
func Look(c api.Config, words []uint64) (api.Contents, api.Errno) {
	v, e := viewOf(c, words)
	if e != api.OK {
		return api.Contents{}, e
	}
	return shaped(v, api.Contents{
		Cell: v.cell(), Stack: v.stack(), Queue: v.queue(), Set: v.set(), Table: v.table(),
	})
}

// cell is the published value, if there is one. (Its slot stands alone: nothing is behind it.)
func (v *view) cell() []int {
	slot, _ := v.follow(v.word(api.RegionCell, 0), plain)
	if slot == chain.None {
		return nil
	}
	return []int{v.value(slot)}
}

func (v *view) stack() []int {
	var values []int
	for slot := range v.chain(api.RegionTop, 0, plain) {
		values = append(values, v.value(slot))
	}
	return values
}

// queue is the values behind the first slot, which stands for nothing.
func (v *view) queue() []int {
	tail := chain.Slot(v.config, v.word(api.RegionTail, 0))
	reached := false
	var values []int
	for slot := range v.chain(api.RegionHead, 0, plain) {
		reached = reached || slot == tail
		values = append(values, v.value(slot))
	}
	if !reached {
		v.odd = true
		return nil
	}
	return values[1:]
}

func (v *view) set() []int {
	each := func(int) bool { return true }
	var keys []int
	for _, key := range v.list(api.RegionRoot, 0, each) {
		keys = append(keys, key)
	}
	return keys
}

func (v *view) table() []api.Pair {
	var pairs []api.Pair
	for bucket := range v.config.Buckets {
		own := func(key int) bool {
			b, _ := table.Bucket(v.config, key)
			return b == bucket
		}
		for slot, key := range v.list(api.RegionBucket, bucket, own) {
			pairs = append(pairs, api.Pair{Key: key, Value: word.Value(v.word(api.RegionData, slot))})
		}
	}
	slices.SortFunc(pairs, func(a, b api.Pair) int { return cmp.Compare(a.Key, b.Key) })
	return pairs
}

// list gives the slots without a mark of the list that begins with a region's word, each with its key.
// The keys of the others must be in order as well.
func (v *view) list(r api.Region, i int, fits func(key int) bool) iter.Seq2[int, int] {
	return func(yield func(slot int, key int) bool) {
		last, some := 0, false
		for slot, mark := range v.chain(r, i, marked) {
			key := v.value(slot)
			if some && key <= last || !fits(key) {
				v.odd = true
				return
			}
			last, some = key, true
			if !mark && !yield(slot, key) {
				return
			}
		}
	}
}
