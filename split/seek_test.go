package split_test

import (
	"testing"

	"reclaim/api"
)

// P23.2: bucket 0's root is Root; no word Bucket is loaded.
func TestSeekOfBucket0(t *testing.T) {
	y := grown(t, pair(8, 8, 1), 8)
	y.tells(t, get(0, 8), no, 1, all(y.loadsSize(0, 8), y.shows(0, rootAt))...)
	y.tells(t, remove(0, 0), no, 1, all(y.loadsSize(0, 8), y.shows(0, rootAt))...)
	y.wantBuckets(t)
	// With the size 1 all keys are bucket 0's.
	y = filled(t, pair(8, 8, 1))
	y.tells(t, get(0, api.MaxSplitKey), no, 1, all(y.loadsSize(0, 1), y.shows(0, rootAt))...)
}

// P23.2: of a planted bucket just its own word is loaded; its root is the address of its slot's link.
func TestSeekOfPlantedBucket(t *testing.T) {
	y := grown(t, pair(8, 8, 1), 8)
	y.calls(t, no, get(0, 7))
	y.wantBuckets(t, 1, 3, 7)
	slots := slotsOf(y.s, y.m.Run().Words)
	at := func(i int) int { return linkAt(y.s, slots[i]) }
	seeks := func(i, bucket int) []api.Access {
		return all(y.loadsSize(0, 8), one(load(0, bucketAt(bucket), link(slots[i]))))
	}
	// Behind buckets 1 and 3 stands the slot of the next one, whose place is above the keys'.
	y.tells(t, get(0, 1), no, 9, all(seeks(0, 1), y.first(0, at(0), slots[1]), y.looks(0, at(0), slots[1], link(slots[2]), bucketPlace(3)), y.leaves(0))...)
	y.tells(t, get(0, 3), no, 9, all(seeks(1, 3), y.first(0, at(1), slots[2]), y.looks(0, at(1), slots[2], 0, bucketPlace(7)), y.leaves(0))...)
	y.tells(t, get(0, 7), no, 2, all(seeks(2, 7), y.shows(0, at(2)))...)
	y.wantBuckets(t, 1, 3, 7)
}

// P23.2: a bucket whose parent is 0 is planted from Root; each of the three calls does it.
func TestSeekPlantsABucket(t *testing.T) {
	for _, mv := range []api.Move{get(0, 12), remove(0, 12)} {
		y := grown(t, pair(8, 8, 1), 8)
		slots, _ := y.free()
		y.tells(t, mv, no, 10, all(
			y.loadsSize(0, 8), one(load(0, bucketAt(4), 0)),
			y.plants(0, rootAt, 4, 0), y.shows(0, linkAt(y.s, slots[0])))...)
		y.wantBuckets(t, 4)
		y.wantSlots(t, slots[0])
	}
	y := grown(t, pair(8, 8, 1), 8)
	slots, _ := y.free()
	at := linkAt(y.s, slots[0])
	y.tells(t, add(0, 12, 120), yes, 17, all(
		y.loadsSize(0, 8), one(load(0, bucketAt(4), 0)),
		y.plants(0, rootAt, 4, 0),
		one(load(0, at, 0)), y.takes(0, 1),
		one(store(0, valueAt(y.s, slots[1]), keyAt(12)), store(0, dataAt(y.s, slots[1]), 120), store(0, linkAt(y.s, slots[1]), 0), swap(0, at, 0, link(slots[1]))),
		y.counts(0, 0, 1, 8), y.leaves(0))...)
	y.wantSlots(t, slots[0], slots[1])
	y.wantTens(t, 12)
}

// P23.2: a bucket whose parent is planted, one whose parent is not, and one whose parent's parent is not: they
// are loaded from the bucket up, and planted from the top down, each from the root that has come before.
func TestSeekPlantsParents(t *testing.T) {
	y := grown(t, pair(8, 8, 1), 8)
	slots, _ := y.free()
	links := func(i int) int { return linkAt(y.s, slots[i]) }
	y.tells(t, get(0, 1), no, 10, all(
		y.loadsSize(0, 8), one(load(0, bucketAt(1), 0)),
		y.plants(0, rootAt, 1, 0), y.shows(0, links(0)))...)
	y.wantBuckets(t, 1)
	y.tells(t, get(0, 7), no, 20, all(
		y.loadsSize(0, 8), one(load(0, bucketAt(7), 0), load(0, bucketAt(3), 0), load(0, bucketAt(1), link(slots[0]))),
		y.plants(0, links(0), 3, 0), y.plants(0, links(1), 7, 1), y.shows(0, links(2)))...)
	y.wantBuckets(t, 1, 3, 7)
	y.wantSlots(t, slots[0], slots[1], slots[2])

	y = grown(t, pair(8, 8, 1), 8)
	slots, _ = y.free()
	y.tells(t, get(0, 15), no, 28, all(
		y.loadsSize(0, 8), one(load(0, bucketAt(7), 0), load(0, bucketAt(3), 0), load(0, bucketAt(1), 0)),
		y.plants(0, rootAt, 1, 0), y.plants(0, links(0), 3, 1), y.plants(0, links(1), 7, 2), y.shows(0, links(2)))...)
	y.wantBuckets(t, 1, 3, 7)
	y.wantSlots(t, slots[0], slots[1], slots[2])
}

// P23.2: a parent is the bucket without its highest bit, not half of it.
func TestSeekGoesByTheHighestBit(t *testing.T) {
	for bucket, parents := range map[int][]int{2: nil, 4: nil, 32: nil, 3: {1}, 5: {1}, 6: {2}, 9: {1}, 12: {4}, 33: {1}, 48: {16}, 63: {31, 15, 7, 3, 1}, 42: {10, 2}} {
		y := grown(t, splitOf(1, 1, 0, 40, 64, 1), 64)
		y.make(t, get(0, bucket))
		y.goes(t, y.loadsSize(0, 64)...)
		y.goes(t, load(0, bucketAt(bucket), 0))
		for _, parent := range parents {
			y.goes(t, load(0, bucketAt(parent), 0))
		}
		y.goes(t, load(0, rootAt, 0))
		y.finish(t, 0)
		want := []int{bucket}
		for _, parent := range parents {
			want = append([]int{parent}, want...)
		}
		y.wantBuckets(t, want...)
	}
}

// P23.2: a bucket that is planted amid keys takes its place between them. (The place of 5 is above that of 1,
// behind which there is no slot: so the point is F6's.)
func TestSeekAmidKeys(t *testing.T) {
	y := filled(t, example(), 2, 1) // by places: 2, 1; slots 0 and 1, and the size 2
	y.wantSizes(t, 2, 2)
	y.tells(t, get(0, 5), no, 29, all(
		y.loadsSize(0, 2), one(load(0, bucketAt(1), 0)),
		y.first(0, rootAt, 0), y.looks(0, rootAt, 0, link(1), keyAt(2)), y.passes(0, 0, 1), y.looks(0, linkAt(y.s, 0), 1, 0, keyAt(1)),
		y.takes(0, 0),
		one(store(0, valueAt(y.s, 2), bucketPlace(1)), store(0, linkAt(y.s, 2), link(1)), swap(0, linkAt(y.s, 0), link(1), link(2)), swap(0, bucketAt(1), 0, link(2))),
		y.first(0, linkAt(y.s, 2), 1), y.looks(0, linkAt(y.s, 2), 1, 0, keyAt(1)), y.leaves(0))...)
	y.wantSlots(t, 0, 2, 1)
}
