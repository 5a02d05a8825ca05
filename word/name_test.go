package word_test

import (
	"math"
	"strings"
	"testing"

	"reclaim/api"
	"reclaim/word"
)

// named is a place and its name.
type named struct {
	p api.Place
	s string
}

func names() []named {
	return []named{
		{api.Place{Region: api.RegionFree}, "free"},
		{api.Place{Region: api.RegionCell}, "cell"},
		{api.Place{Region: api.RegionTop}, "top"},
		{api.Place{Region: api.RegionHead}, "head"},
		{api.Place{Region: api.RegionTail}, "tail"},
		{api.Place{Region: api.RegionRoot}, "root"},
		{api.Place{Region: api.RegionBucket}, "bucket 0"},
		{api.Place{Region: api.RegionBucket, I: 3}, "bucket 3"},
		{api.Place{Region: api.RegionActive, I: 10}, "active 10"},
		{api.Place{Region: api.RegionHazard}, "hazard 0.0"},
		{api.Place{Region: api.RegionHazard, I: 1, K: 2}, "hazard 1.2"},
		{api.Place{Region: api.RegionHazard, I: 100, K: 0}, "hazard 100.0"},
		{api.Place{Region: api.RegionHazard, I: 0, K: lastSlot}, "hazard 0.2147483646"},
		{api.Place{Region: api.RegionHazard, I: lastSlot, K: lastSlot}, "hazard 2147483646.2147483646"},
		{api.Place{Region: api.RegionSpare, I: 7}, "spare 7"},
		{api.Place{Region: api.RegionValue, I: 1024}, "value 1024"},
		{api.Place{Region: api.RegionData, I: 65}, "data 65"},
		{api.Place{Region: api.RegionLink, I: 5000}, "link 5000"},
		{api.Place{Region: api.RegionLink, I: lastSlot}, "link 2147483646"},
	}
}

// P1.7.
func TestNameAndRead(t *testing.T) {
	for _, x := range names() {
		if s, e := word.Name(x.p); s != x.s || e != api.OK {
			t.Errorf("Name(%v) = %q, %d", x.p, s, e)
		}
		if p, e := word.Read(x.s); p != x.p || e != api.OK {
			t.Errorf("Read(%q) = %v, %d", x.s, p, e)
		}
	}
}

// P1.7: a region that is none, whatever the numbers.
func TestNameOfNoRegion(t *testing.T) {
	for _, r := range noRegions() {
		for _, i := range []int{0, 1, -1} {
			if s, e := word.Name(api.Place{Region: r, I: i}); s != "" || e != api.ErrRange {
				t.Errorf("Name of region %d, %d = %q, %d", r, i, s, e)
			}
		}
	}
}

// P1.7: numbers where the region has none, and numbers out of their range.
func TestNameOfWrongNumbers(t *testing.T) {
	wrong := []int{-1, math.MinInt, lastSlot + 1, 1 << 32, math.MaxInt}
	for r := api.RegionFree; r <= api.RegionLink; r++ {
		places := []api.Place{}
		for _, n := range wrong {
			places = append(places, api.Place{Region: r, I: n}, api.Place{Region: r, K: n})
		}
		for _, n := range []int{1, 2, lastSlot} {
			if r < api.RegionBucket {
				places = append(places, api.Place{Region: r, I: n})
			}
			if r != api.RegionHazard {
				places = append(places, api.Place{Region: r, K: n})
			}
		}
		for _, p := range places {
			if s, e := word.Name(p); s != "" || e != api.ErrRange {
				t.Errorf("Name(%v) = %q, %d", p, s, e)
			}
		}
	}
}

// P1.7: texts that are near to a name and none.
func TestReadOfNoName(t *testing.T) {
	wrong := []string{
		"", " ", ".", "0", "-", "nothing", "nothing 0", "Top", "TOP", "to", "topp", "top0", "top.", "top .", "top 0.0",
		"bucket.3", "bucket3", "bucket3 ", "bucket three", "bucket 0x1", "bucket 1_0", "bucket 1e3", "bucket ٣",
		"spare -0", "spare 00", "spare 07", "spare +7", "spare 7,", "spare 7.", "spare 7.0", "spare 7 0", "spare  7", "spare\t7",
		"hazard", "hazard 1", "hazard .", "hazard 1.", "hazard .2", "hazard 1. 2", "hazard 1 .2", "hazard 1 2", "hazard 1,2", "hazard 1..2",
		"hazard 1.2.3", "hazard 1.2.", "hazard 01.2", "hazard 1.02", "hazard -1.2", "hazard 1.-2", "hazard +1.2", "hazard 1.+2",
		"hazard 2147483647.0", "hazard 0.2147483647", "link 2147483647", "link 4294967296", "link 9223372036854775807",
		"link 9223372036854775808", "link 18446744073709551616", "link 99999999999999999999999999", "link -1",
		"top\x00", "\xff", "top\xff", "link \xff", strings.Repeat("9", 1<<16), "link " + strings.Repeat("0", 1<<16) + "7",
	}
	for _, x := range names() {
		wrong = append(wrong, x.s+" ", " "+x.s, x.s+"\n", x.s+".", x.s+" 0", x.s+"*", strings.ToUpper(x.s))
		if first, _, found := strings.Cut(x.s, " "); found {
			wrong = append(wrong, first, first+" ")
		}
	}
	for _, s := range wrong {
		if p, e := word.Read(s); p != (api.Place{}) || e != api.ErrName {
			t.Errorf("Read(%q) = %v, %d", s, p, e)
		}
	}
}
