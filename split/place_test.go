package split_test

import (
	"testing"

	"reclaim/api"
	"reclaim/split"
)

func wantPlace(t *testing.T, key, place int) {
	t.Helper()
	if got, e := split.Place(key); got != place || e != api.OK {
		t.Errorf("Place(%d) = %d, %d, not %d", key, got, e, place)
	}
	if got, e := split.Key(place); got != key || e != api.OK {
		t.Errorf("Key(%d) = %d, %d, not %d", place, got, e, key)
	}
}

// P23.1: the chapter's places, and those of the least and the greatest keys.
func TestPlaces(t *testing.T) {
	wantPlace(t, 0, 1)
	wantPlace(t, 1, 1073741825)
	wantPlace(t, 2, 536870913)
	wantPlace(t, 3, 1073741825+536870912)
	wantPlace(t, 1<<28, 5)
	wantPlace(t, 1<<29, 3)
	wantPlace(t, 1<<29+1, 1073741827)
	wantPlace(t, api.MaxSplitKey-1, 1<<30-1)
	wantPlace(t, api.MaxSplitKey, 1<<31-1)
}

// P23.1: each bit of a key is one of its place.
func TestPlaceOfEachBit(t *testing.T) {
	for bit := range 30 {
		wantPlace(t, 1<<bit, 2<<(29-bit)+1)
		wantPlace(t, api.MaxSplitKey-1<<bit, 1<<31-1-2<<(29-bit))
	}
}

// P23.1: Key of Place is the key, Place of Key the place, and no two keys have one place.
func TestPlaceThereAndBack(t *testing.T) {
	d := dice(3)
	for range 20000 {
		key := d.below(api.MaxSplitKey + 1)
		wantPlace(t, key, int(keyAt(key)))
	}
	for odd := 1; odd < 20000; odd += 2 {
		key, e := split.Key(odd)
		if back, f := split.Place(key); e != api.OK || f != api.OK || back != odd {
			t.Errorf("Key(%d) = %d, %d; back: %d, %d", odd, key, e, back, f)
		}
	}
}

// P23.1: what is no key has no place.
func TestPlaceOfNoKey(t *testing.T) {
	for _, key := range []int{-1, -2, api.MaxSplitKey + 1, api.MaxSplitKey + 2, 1 << 31, 1 << 32, 1<<32 + 1, -1 << 63, 1<<63 - 1} {
		if got, e := split.Place(key); got != 0 || e != api.ErrRange {
			t.Errorf("Place(%d) = %d, %d", key, got, e)
		}
	}
}

// P23.1: places of buckets are no keys' places, nor is any even number, or one beyond the last key's.
func TestKeyOfNoKeysPlace(t *testing.T) {
	for bucket := range api.MaxBuckets {
		if got, e := split.Key(int(bucketPlace(bucket))); got != 0 || e != api.ErrRange {
			t.Errorf("Key of the place of bucket %d = %d, %d", bucket, got, e)
		}
	}
	for _, place := range []int{
		0, 2, 4, 1073741824, 1073741826, 1<<31 - 2, 1 << 31, 1<<31 + 1, 1<<32 + 1, 1<<62 + 1,
		-1, -2, -3, -1<<31 + 1, 1 - 1<<32, -1 << 63, 1 - 1<<63, 1<<63 - 1, 1<<63 - 2,
	} {
		if got, e := split.Key(place); got != 0 || e != api.ErrRange {
			t.Errorf("Key(%d) = %d, %d", place, got, e)
		}
	}
}

// P23.12's ground: a bucket's place is ahead of those of its keys, whatever the number of buckets, and behind
// those of all keys of buckets whose places are ahead.
func TestPlacesAreStretches(t *testing.T) {
	d := dice(4)
	for range 4000 {
		key := d.below(api.MaxSplitKey + 1)
		place, _ := split.Place(key)
		for size := 1; size <= api.MaxBuckets; size *= 2 {
			for bucket := range size {
				first := int(bucketPlace(bucket))
				last := first + 1<<31/size // the first place behind the stretch
				if in := place > first && place < last; in != (key%size == bucket) {
					t.Fatalf("key %d: in the stretch of bucket %d of %d: %v", key, bucket, size, in)
				}
			}
		}
	}
}
