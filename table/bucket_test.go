package table_test

import (
	"math"
	"math/big"
	"testing"

	"reclaim/api"
	"reclaim/table"
)

// wantBucket asks for a key's bucket.
func wantBucket(t *testing.T, buckets, key, want int) {
	t.Helper()
	c := example()
	c.Buckets = buckets
	if got, e := table.Bucket(c, key); got != want || e != api.OK {
		t.Errorf("%d buckets: Bucket(%d) = %d, %d, not %d", buckets, key, got, e, want)
	}
}

// The chapter's examples.
func TestBucketExamples(t *testing.T) {
	for _, x := range []struct{ buckets, key, want int }{
		{2, 0, 0}, {2, 5, 1}, {2, -1, 1}, {2, math.MinInt, 0}, {3, -1, 0}, {3, -2, 2},
	} {
		wantBucket(t, x.buckets, x.key, x.want)
		if got := bucketOf(x.key, x.buckets); got != x.want {
			t.Errorf("the tests take %d for the bucket of %d of %d", got, x.key, x.buckets)
		}
	}
}

// P9.3: the key as a word, modulo Buckets, with each number of buckets that may be.
func TestBucket(t *testing.T) {
	words := new(big.Int).Lsh(big.NewInt(1), 64)
	for buckets := 1; buckets <= api.MaxBuckets; buckets++ {
		keys := []int{math.MinInt, math.MinInt + 1, math.MaxInt, math.MaxInt - 1, 1 << 62, -1 << 62, 1<<32 + 7, -1<<32 - 7}
		for near := -200; near <= 200; near++ {
			keys = append(keys, near)
		}
		for _, key := range keys {
			k := big.NewInt(int64(key))
			if key < 0 {
				k.Add(k, words)
			}
			want := int(k.Mod(k, big.NewInt(int64(buckets))).Int64())
			wantBucket(t, buckets, key, want)
			if got := bucketOf(key, buckets); got != want {
				t.Errorf("the tests take %d for the bucket of %d of %d", got, key, buckets)
			}
		}
	}
}

// P9.3: nothing but the number of buckets and the key is looked at, if the configuration may be.
func TestBucketOfOtherConfigs(t *testing.T) {
	c := api.Config{Threads: 16, Records: 16, Hazards: 8, Retire: 1024, Cache: 64, Slots: 1024, Buckets: 64}
	if got, e := table.Bucket(c, -1); got != 63 || e != api.OK {
		t.Errorf("%d, %d", got, e)
	}
}

// P9.3 and P8: ErrConfig, and 0 beside it.
func TestBucketRefuses(t *testing.T) {
	for _, c := range oddConfigs() {
		for _, key := range []int{0, 1, 5, -1, math.MaxInt, math.MinInt} {
			if got, e := table.Bucket(c, key); got != 0 || e != api.ErrConfig {
				t.Errorf("Bucket(%+v, %d) = %d, %d", c, key, got, e)
			}
		}
	}
}

// The root of a key is its bucket's word: a call's first access is a load of it.
func TestRoots(t *testing.T) {
	for _, buckets := range []int{1, 2, 3, 64} {
		y := yardOf(t, configOf(1, 1, 1, 0, 2, buckets))
		y.call(t, register(0))
		for _, key := range []int{0, 1, 5, 63, 64, -1, -2, -64, math.MinInt, math.MaxInt} {
			for _, op := range ops {
				from := y.accesses()
				y.make(t, api.Move{Op: op, Arg: key})
				y.steps(t, 0, 1)
				y.wantSeen(t, from, load(0, 6+bucketOf(key, buckets), 0))
				y.finish(t, 0)
				if op == api.OpAdd {
					y.calls(t, remove(0, key), scan(0))
				}
			}
		}
	}
}
