package word_test

import (
	"math"
	"slices"
	"testing"

	"reclaim/api"
	"reclaim/word"
)

// placesOf lists a memory's places as the chapter's table has them, one region behind the other.
func placesOf(c api.Config) []api.Place {
	var list []api.Place
	add := func(r api.Region, items, each int) {
		for i := range items {
			for k := range each {
				list = append(list, api.Place{Region: r, I: i, K: k})
			}
		}
	}
	add(api.RegionFree, 1, 1)
	add(api.RegionCell, 1, 1)
	add(api.RegionTop, 1, 1)
	add(api.RegionHead, 1, 1)
	add(api.RegionTail, 1, 1)
	add(api.RegionRoot, 1, 1)
	add(api.RegionBucket, c.Buckets, 1)
	add(api.RegionActive, c.Records, 1)
	add(api.RegionHazard, c.Records, c.Hazards)
	add(api.RegionSpare, c.Slots, 1)
	add(api.RegionValue, c.Slots, 1)
	add(api.RegionData, c.Slots, 1)
	add(api.RegionLink, c.Slots, 1)
	return list
}

// P1.5.
func TestSize(t *testing.T) {
	for _, x := range []struct {
		c api.Config
		n int
	}{
		{example(), 32},
		{least(), 6 + 1 + 1 + 3 + 4},
		{greatest(), 6 + 64 + 16 + 128 + 4*1024},
		{mixed(), 6 + 3 + 5 + 35 + 4*17},
	} {
		if n, e := word.Size(x.c); n != x.n || e != api.OK {
			t.Errorf("Size(%+v) = %d, %d", x.c, n, e)
		}
	}
}

// P1.6, the chapter's example 3.
func TestAddrOfExample(t *testing.T) {
	for _, x := range []struct {
		p    api.Place
		addr int
	}{
		{api.Place{Region: api.RegionFree}, 0},
		{api.Place{Region: api.RegionBucket, I: 1}, 7},
		{api.Place{Region: api.RegionActive, I: 0}, 8},
		{api.Place{Region: api.RegionHazard, I: 1, K: 2}, 15},
		{api.Place{Region: api.RegionSpare, I: 0}, 16},
		{api.Place{Region: api.RegionValue, I: 0}, 20},
		{api.Place{Region: api.RegionData, I: 0}, 24},
		{api.Place{Region: api.RegionLink, I: 3}, 31},
	} {
		if a, e := word.Addr(example(), x.p); a != x.addr || e != api.OK {
			t.Errorf("Addr(%v) = %d, %d", x.p, a, e)
		}
		if p, e := word.At(example(), x.addr); p != x.p || e != api.OK {
			t.Errorf("At(%d) = %v, %d", x.addr, p, e)
		}
	}
}

// P1.6 and P1.10: the addresses from 0 to Size - 1 are the places in their order, both ways.
func TestAddrAndAtOfAllPlaces(t *testing.T) {
	for _, c := range goodConfigs() {
		places := placesOf(c)
		if n, e := word.Size(c); n != len(places) || e != api.OK {
			t.Errorf("Size(%+v) = %d, %d: there are %d places", c, n, e, len(places))
		}
		for addr, p := range places {
			if a, e := word.Addr(c, p); a != addr || e != api.OK {
				t.Errorf("Addr(%+v, %v) = %d, %d, not %d", c, p, a, e, addr)
			}
			if q, e := word.At(c, addr); q != p || e != api.OK {
				t.Errorf("At(%+v, %d) = %v, %d, not %v", c, addr, q, e, p)
			}
		}
	}
}

// P1.6: whatever is not among the memory's places is refused.
func TestAddrOfNoPlace(t *testing.T) {
	numbers := []int{math.MinInt, -1 << 32, -2, -1, 0, 1, 2, 3, 4, 5, 6, 7, 8, 16, 17, 18, 64, 65, 1 << 32, 1 << 61, 1 << 62, math.MaxInt}
	for _, c := range []api.Config{example(), least(), mixed()} {
		places := placesOf(c)
		for r := api.Region(-1); r <= 15; r++ {
			for _, i := range numbers {
				for _, k := range numbers {
					p := api.Place{Region: r, I: i, K: k}
					if slices.Contains(places, p) {
						continue
					}
					if a, e := word.Addr(c, p); a != 0 || e != api.ErrRange {
						t.Errorf("Addr(%+v, %v) = %d, %d", c, p, a, e)
					}
				}
			}
		}
	}
}

// P1.6: the numbers one beyond the greatest configuration's, and regions that are none.
func TestAddrOfNoPlaceAtTheLimits(t *testing.T) {
	for _, p := range []api.Place{
		{}, {Region: 14}, {Region: -1}, {Region: math.MinInt}, {Region: math.MaxInt}, {Region: 1<<32 + api.RegionTop},
		{Region: api.RegionBucket, I: 64},
		{Region: api.RegionActive, I: 16},
		{Region: api.RegionHazard, I: 16},
		{Region: api.RegionHazard, I: 15, K: 8},
		{Region: api.RegionSpare, I: 1024},
		{Region: api.RegionValue, I: 1024},
		{Region: api.RegionData, I: 1024},
		{Region: api.RegionLink, I: 1024},
		{Region: api.RegionLink, I: 0, K: 1},
	} {
		if a, e := word.Addr(greatest(), p); a != 0 || e != api.ErrRange {
			t.Errorf("Addr(%v) = %d, %d", p, a, e)
		}
	}
}

// P1.6.
func TestAtOfNoAddress(t *testing.T) {
	for _, c := range goodConfigs() {
		n := len(placesOf(c))
		for _, addr := range []int{-1, -2, math.MinInt, n, n + 1, 8192, 1 << 32, math.MaxInt} {
			if p, e := word.At(c, addr); p != (api.Place{}) || e != api.ErrRange {
				t.Errorf("At(%+v, %d) = %v, %d", c, addr, p, e)
			}
		}
	}
}

// P1.9, the chapter's example 6.
func TestFirstOfExample(t *testing.T) {
	for _, x := range []struct {
		used int
		at   map[int]uint64 // the words that are not 0
	}{
		{0, map[int]uint64{0: 1, 16: 2, 17: 3, 18: 4}},
		{1, map[int]uint64{0: 2, 3: 1, 4: 1, 17: 3, 18: 4}},
		{2, map[int]uint64{0: 3, 3: 1, 4: 1, 18: 4}},
		{3, map[int]uint64{0: 4, 3: 1, 4: 1}},
		{4, map[int]uint64{3: 1, 4: 1}},
	} {
		words, e := word.First(example(), x.used)
		if len(words) != 32 || e != api.OK {
			t.Fatalf("First(%d): %d words, %d", x.used, len(words), e)
		}
		for addr, w := range words {
			if w != x.at[addr] {
				t.Errorf("First(%d): address %d is %d, not %d", x.used, addr, w, x.at[addr])
			}
		}
	}
}

// firstWord is the word of a place at the beginning, as P1.9 says it.
func firstWord(c api.Config, used int, p api.Place) uint64 {
	switch {
	case p.Region == api.RegionFree && used < c.Slots:
		return uint64(used) + 1
	case p.Region == api.RegionSpare && p.I >= used && p.I <= c.Slots-2:
		return uint64(p.I) + 2
	case (p.Region == api.RegionHead || p.Region == api.RegionTail) && used > 0:
		return 1
	}
	return 0
}

// P1.9: each word of each place, at the edges of used.
func TestFirst(t *testing.T) {
	for _, c := range goodConfigs() {
		for _, used := range []int{0, 1, 2, c.Slots - 2, c.Slots - 1, c.Slots} {
			if used < 0 || used > c.Slots {
				continue
			}
			words, e := word.First(c, used)
			places := placesOf(c)
			if len(words) != len(places) || e != api.OK {
				t.Fatalf("First(%+v, %d): %d words, %d", c, used, len(words), e)
			}
			for addr, p := range places {
				if want := firstWord(c, used, p); words[addr] != want {
					t.Errorf("First(%+v, %d): %v is %d, not %d", c, used, p, words[addr], want)
				}
			}
		}
	}
}

// P1.9.
func TestFirstOfTooManyUsed(t *testing.T) {
	for _, c := range goodConfigs() {
		for _, used := range []int{-1, -2, math.MinInt, c.Slots + 1, c.Slots + 2, 1 << 32, math.MaxInt} {
			if words, e := word.First(c, used); len(words) != 0 || e != api.ErrRange {
				t.Errorf("First(%+v, %d) = %d words, %d", c, used, len(words), e)
			}
		}
	}
}

// P6: two answers share no memory, nor does one tell of another in its spare room.
func TestFirstIsNewMemory(t *testing.T) {
	one, _ := word.First(example(), 1)
	want := slices.Clone(one)
	for i := range one {
		one[i] = 99
	}
	one = append(one, 99)
	two, e := word.First(example(), 1)
	if e != api.OK || !slices.Equal(two, want) {
		t.Errorf("First a second time = %v, %d, not %v", two, e, want)
	}
	for _, w := range two[len(two):cap(two)] {
		if w != 0 {
			t.Errorf("First's spare room tells %d", w)
		}
	}
}
