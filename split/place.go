package split

import (
	"math/bits"

	"reclaim/api"
)

// keyBits is how many bits a key has, and the number that is turned round to its place.
const keyBits = 30

// Place is a key's place. It is odd, so that the place of the bucket whose number has the same bits comes
// ahead of it.
func Place(key int) (int, api.Errno) {
	if !isKey(key) {
		return 0, api.ErrRange
	}
	return 2*round(key) + 1, api.OK
}

// Key is the key of a place.
func Key(place int) (int, api.Errno) {
	if place < 0 || place%2 == 0 || !isKey(place/2) {
		return 0, api.ErrRange
	}
	return round(place / 2), api.OK
}

// placeOfBucket is a bucket's place.
func placeOfBucket(bucket int) int {
	return 2 * round(bucket)
}

// bucketAt is the bucket that a place above 0, which is bucket 0's, is of; none, if it is of none.
func bucketAt(place int, buckets int) int {
	if place%2 != 0 || !isKey(place/2) {
		return none
	}
	bucket := round(place / 2)
	if bucket >= buckets {
		return none
	}
	return bucket
}

// parent is a bucket without its highest bit: the one that had its keys ahead of the doubling by which it
// came into use.
func parent(bucket int) int {
	return bucket &^ (1 << (bits.Len(uint(bucket)) - 1))
}

func isKey(n int) bool {
	return n >= 0 && n <= api.MaxSplitKey
}

// round is a number with its bits turned round. Numbers that have their last bits in common stand side by
// side by their rounds: so a bucket's keys do, for each number of buckets.
func round(n int) int {
	turned := 0
	for i := range keyBits {
		turned = turned<<1 | n>>i&1
	}
	return turned
}
