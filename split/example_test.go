package split_test

import (
	"testing"

	"reclaim/api"
	"reclaim/split"
)

// The chapter's examples, access by access: root 5, buckets 6 to 9, active 10, hazards 11 to 13, spare 14 to 21,
// value 22 to 29, data 30 to 37, link 38 to 45, count 46, size 47.
func TestExamples(t *testing.T) {
	const (
		placeOf1  = 1073741825
		placeOf3  = 1610612737
		placeOfB1 = 1073741824
	)
	y := filled(t, example())
	y.tells(t, add(0, 3, 30), yes, 8,
		load(0, 47, 1), load(0, 5, 0), load(0, 0, 1), load(0, 14, 2), swap(0, 0, 1, 1<<32+2),
		store(0, 22, placeOf3), store(0, 30, 30), store(0, 38, 0), swap(0, 5, 0, 1),
		load(0, 46, 0), swap(0, 46, 0, 1), load(0, 47, 1),
		store(0, 11, 0), store(0, 12, 0), store(0, 13, 0))
	y.wantSizes(t, 1, 1)
	y.tells(t, add(0, 1, 10), yes, 15,
		load(0, 47, 1),
		load(0, 5, 1), store(0, 12, 1), load(0, 5, 1), load(0, 38, 0), store(0, 11, 0), load(0, 38, 0), load(0, 22, placeOf3), load(0, 5, 1),
		load(0, 0, 1<<32+2), load(0, 15, 3), swap(0, 0, 1<<32+2, 2<<32+3),
		store(0, 23, placeOf1), store(0, 31, 10), store(0, 39, 1), swap(0, 5, 1, 2),
		load(0, 46, 1), swap(0, 46, 1, 2), load(0, 47, 1), swap(0, 47, 1, 2),
		store(0, 11, 0), store(0, 12, 0), store(0, 13, 0))
	y.wantSizes(t, 2, 2)
	y.wantBuckets(t)
	y.tells(t, get(0, 3), value(30), 29,
		load(0, 47, 2), load(0, 7, 0),
		load(0, 5, 2), store(0, 12, 2), load(0, 5, 2), load(0, 39, 1), store(0, 11, 1), load(0, 39, 1), load(0, 23, placeOf1), load(0, 5, 2),
		load(0, 0, 2<<32+3), load(0, 16, 4), swap(0, 0, 2<<32+3, 3<<32+4),
		store(0, 24, placeOfB1), store(0, 40, 2), swap(0, 5, 2, 3), swap(0, 7, 0, 3),
		load(0, 40, 2), store(0, 12, 2), load(0, 40, 2), load(0, 39, 1), store(0, 11, 1), load(0, 39, 1), load(0, 23, placeOf1), load(0, 40, 2),
		store(0, 13, 2), store(0, 12, 1),
		load(0, 38, 0), store(0, 11, 0), load(0, 38, 0), load(0, 22, placeOf3), load(0, 39, 1),
		load(0, 30, 30),
		store(0, 11, 0), store(0, 12, 0), store(0, 13, 0))
	y.wantTens(t, 1, 3)
	y.wantBuckets(t, 1)
	y.wantSizes(t, 2, 2)
}

// The chapter's places.
func TestExamplesOfPlaces(t *testing.T) {
	for key, place := range map[int]int{0: 1, 1: 2*(1<<29) + 1, 2: 536870913} {
		wantPlace(t, key, place)
	}
	if got := bucketPlace(1); got != 1073741824 {
		t.Errorf("the place of bucket 1 is %d", got)
	}
	if key, e := split.Key(2); key != 0 || e != api.ErrRange {
		t.Errorf("Key(2) = %d, %d", key, e)
	}
}
