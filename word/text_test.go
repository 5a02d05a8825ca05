package word_test

import (
	"math"
	"strings"
	"testing"

	"reclaim/api"
	"reclaim/word"
)

func noRegions() []api.Region {
	return []api.Region{0, -1, 14, 15, math.MinInt, math.MaxInt, 1<<32 + api.RegionLink}
}

// plainRegions are those whose words are links without a mark.
func plainRegions() []api.Region {
	return []api.Region{
		api.RegionCell, api.RegionTop, api.RegionHead, api.RegionTail, api.RegionRoot,
		api.RegionBucket, api.RegionHazard, api.RegionSpare,
	}
}

func numberRegions() []api.Region {
	return []api.Region{api.RegionValue, api.RegionData}
}

// shown is a word and its text.
type shown struct {
	w uint64
	s string
}

func plainTexts() []shown {
	return []shown{{0, "-"}, {1, "0"}, {8, "7"}, {11, "10"}, {1024, "1023"}, {2147483647, "2147483646"}}
}

func markedTexts() []shown {
	return []shown{{4294967296, "-*"}, {4294967297, "0*"}, {4294967304, "7*"}, {6442450943, "2147483646*"}}
}

func headTexts() []shown {
	return []shown{
		{0, "0:-"}, {1, "0:0"}, {4294967296, "1:-"}, {12884901896, "3:7"}, {2147483647, "0:2147483646"},
		{18446744069414584320, "4294967295:-"}, {18446744071562067967, "4294967295:2147483646"},
	}
}

func numberTexts() []shown {
	return []shown{
		{0, "0"}, {1, "1"}, {10, "10"}, {math.MaxUint64, "-1"}, {math.MaxUint64 - 9, "-10"},
		{1<<63 - 1, "9223372036854775807"}, {1 << 63, "-9223372036854775808"},
	}
}

func flagTexts() []shown {
	return []shown{{0, "0"}, {1, "1"}}
}

// P1.8: the texts of each region's words, both ways.
func TestShowAndParse(t *testing.T) {
	of := map[api.Region][]shown{
		api.RegionFree:   headTexts(),
		api.RegionActive: flagTexts(),
		api.RegionLink:   append(plainTexts(), markedTexts()...),
	}
	for _, r := range plainRegions() {
		of[r] = plainTexts()
	}
	for _, r := range numberRegions() {
		of[r] = numberTexts()
	}
	for r := api.RegionFree; r <= api.RegionLink; r++ {
		for _, x := range of[r] {
			if s, e := word.Show(r, x.w); s != x.s || e != api.OK {
				t.Errorf("Show(%d, %d) = %q, %d", r, x.w, s, e)
			}
			if w, e := word.Parse(r, x.s); w != x.w || e != api.OK {
				t.Errorf("Parse(%d, %q) = %d, %d", r, x.s, w, e)
			}
		}
	}
}

// P1.8: of a region that is none ErrRange comes ahead of what is wrong with the word or the text.
func TestShowAndParseOfNoRegion(t *testing.T) {
	for _, r := range noRegions() {
		for _, w := range []uint64{0, 1, math.MaxUint64} {
			if s, e := word.Show(r, w); s != "" || e != api.ErrRange {
				t.Errorf("Show(%d, %d) = %q, %d", r, w, s, e)
			}
		}
		for _, text := range []string{"0", "-", "", "wrong"} {
			if w, e := word.Parse(r, text); w != 0 || e != api.ErrRange {
				t.Errorf("Parse(%d, %q) = %d, %d", r, text, w, e)
			}
		}
	}
}

// P1.8: words that are none of the region's kind.
func TestShowOfNoWord(t *testing.T) {
	noLinks := []uint64{2147483648, 1<<32 - 1, 1<<32 + 1<<31, 8589934592, 8589934600, 1 << 63, math.MaxUint64}
	wrong := map[api.Region][]uint64{
		api.RegionFree:   {2147483648, 1<<32 - 1, 3<<32 + 1<<31, math.MaxUint64},
		api.RegionActive: {2, 3, 1 << 32, 1<<32 + 1, 1 << 63, math.MaxUint64},
		api.RegionLink:   noLinks,
	}
	for _, r := range plainRegions() {
		wrong[r] = append([]uint64{4294967296, 4294967297, 4294967304, 6442450943}, noLinks...)
	}
	for r, words := range wrong {
		for _, w := range words {
			if s, e := word.Show(r, w); s != "" || e != api.ErrWord {
				t.Errorf("Show(%d, %d) = %q, %d", r, w, s, e)
			}
		}
	}
}

// wrongTexts are no word's in any region.
func wrongTexts() []string {
	return []string{
		"", " ", "x", ":", "*", "--", "+", "-:-", "00", "01", "-0", "+0", "+1", "-01", " 1", "1 ", "1\n", "1.0", "1e3", "0x1", "1_0", "٣", "\xff", "0\x00",
		"9223372036854775808", "18446744073709551615", "99999999999999999999999999", "-9223372036854775809",
		"+7*", "07*", "-0*", "-1*", "--*", "7**", "*7", "7 *", "2147483647*", "6442450943*",
		"0:", ":0", ":-", "0:00", "00:0", "0:-0", "0:-1", "0:+1", "-0:0", "-1:0", "+1:0", "0:--", "0::0", "0:0:0", "0:0*", "0:-*", "0: 0", "0 :0",
		"4294967296:0", "4294967296:-", "18446744073709551616:0", "0:2147483647", "0:4294967296", "0:18446744073709551616", "x:0", "0:x",
		strings.Repeat("9", 1<<16), strings.Repeat("0", 1<<16),
	}
}

// P1.8: texts that are no word's, or another region's.
func TestParseOfNoText(t *testing.T) {
	links := []string{"-1", "-7", "2147483647", "4294967296", "9223372036854775807", "0:0", "0:-", "3:7"}
	wrong := map[api.Region][]string{
		api.RegionFree:   {"-", "0", "7", "-1", "7*", "-*", "0*"},
		api.RegionActive: {"2", "9", "10", "-", "-1", "0*", "-*", "0:0", "0:-", "4294967296", "9223372036854775807"},
		api.RegionLink:   links,
	}
	for _, r := range plainRegions() {
		wrong[r] = append([]string{"7*", "-*", "0*"}, links...)
	}
	for _, r := range numberRegions() {
		wrong[r] = []string{"-", "7*", "-*", "0:0", "0:-", "3:7"}
	}
	for r := api.RegionFree; r <= api.RegionLink; r++ {
		for _, text := range append(wrong[r], wrongTexts()...) {
			if w, e := word.Parse(r, text); w != 0 || e != api.ErrText {
				t.Errorf("Parse(%d, %.40q) = %d, %d", r, text, w, e)
			}
		}
	}
}
