package pool_test

import (
	"math"
	"strconv"
	"testing"

	"reclaim/api"
)

// begins are the words that a chain begins with, and the cell's.
var begins = []api.Place{
	{Region: api.RegionCell}, {Region: api.RegionTop}, {Region: api.RegionHead}, {Region: api.RegionRoot},
	{Region: api.RegionBucket, I: 0}, {Region: api.RegionBucket, I: 1}, {Region: api.RegionBucket, I: 2},
}

// chains are the slots of fullPaper, as they stand one behind the other: the queue's, the stack's, the
// list's, the buckets'.
var chains = [][]int{{0, 1, 2}, {4, 5, 6}, {7, 8, 9, 10}, {11, 12, 13}, {14, 15}, {16}}

// ofList tells whether a chain of fullPaper is a list's.
func ofList(number int) bool { return number >= 2 }

// noLinks are words that are no link.
var noLinks = []uint64{1 << 31, 1<<32 - 1, 1 << 33, 1<<33 + 1, 1<<63 + 5, math.MaxUint64}

// P10.3: a word that is no link, or has a mark, or names a slot that there isn't, where a chain begins, and
// in the cell.
func TestShapeOfBegins(t *testing.T) {
	for _, p := range begins {
		for _, w := range append(noLinks, marked(-1), fullPaper().words[addrOf(fullPaper().c, p.Region, p.I)]|markBit, link(20), link(21), link(api.MaxIndex)) {
			fullPaper().put(p.Region, p.I, w).wantNoLook(t, "region "+strconv.Itoa(int(p.Region))+" "+strconv.FormatUint(w, 16), api.ErrShape)
		}
	}
}

// P10.3: likewise in the links of a chain's slots, the last one's too; but in a list's a mark may be.
func TestShapeOfLinks(t *testing.T) {
	for number, chain := range chains {
		for _, slot := range chain {
			for _, w := range append(noLinks, link(20), marked(20), link(api.MaxIndex)) {
				fullPaper().put(api.RegionLink, slot, w).wantNoLook(t, "link "+strconv.Itoa(slot), api.ErrShape)
			}
			p := fullPaper()
			p.words[addrOf(p.c, api.RegionLink, slot)] |= markBit
			if !ofList(number) {
				p.wantNoLook(t, "a mark at slot "+strconv.Itoa(slot), api.ErrShape)
			}
		}
	}
}

// P10.3: a slot that comes twice in one chain, or in two, or is the cell's.
func TestShapeOfSlotsThatComeTwice(t *testing.T) {
	for number, chain := range chains {
		last := chain[len(chain)-1]
		for other, slots := range chains {
			for _, slot := range slots {
				what := "slot " + strconv.Itoa(slot) + " behind " + strconv.Itoa(last)
				// The key is made to fit, so that nothing but its coming twice is wrong.
				p := fullPaper().put(api.RegionLink, last, link(slot))
				p.wantNoLook(t, what, api.ErrShape)
				if ofList(number) {
					p.put(api.RegionLink, last, marked(slot)).wantNoLook(t, what, api.ErrShape)
				}
				if number != other && !ofList(other) {
					p = fullPaper().put(api.RegionLink, last, link(slot)).put(api.RegionValue, slot, 12+uint64(max(0, number-3)))
					p.wantNoLook(t, what+" with a fit value", api.ErrShape)
				}
			}
		}
		fullPaper().put(api.RegionLink, last, link(3)).put(api.RegionLink, 3, 0).put(api.RegionValue, 3, 12+uint64(max(0, number-3))).
			wantNoLook(t, "the cell's slot behind "+strconv.Itoa(last), api.ErrShape)
	}
	for _, p := range begins[1:] {
		fullPaper().put(p.Region, p.I, link(3)).put(api.RegionLink, 3, 0).put(api.RegionTail, 0, link(3)).
			wantNoLook(t, "a chain of the cell's slot", api.ErrShape)
	}
	for slot := range 17 {
		p := fullPaper().put(api.RegionCell, 0, link(slot))
		if slot == 3 {
			p.wantLook(t, "the cell's own slot", fullContents())
		} else {
			p.wantNoLook(t, "the cell's slot in a chain", api.ErrShape)
		}
	}
}

// P10.3: two chains that begin with the same slot.
func TestShapeOfChainsThatAreOne(t *testing.T) {
	for _, one := range begins[1:] {
		for _, other := range begins[1:] {
			if one == other {
				continue
			}
			p := paperOf(fullPaper().c).slot(0, 0, 0, 0).put(api.RegionHead, 0, link(1)).put(api.RegionTail, 0, link(1))
			p.put(one.Region, one.I, link(1)).put(other.Region, other.I, link(1))
			p.wantNoLook(t, "two chains", api.ErrShape)
		}
	}
}

// P10.3: a queue has a slot, and Tail names one of its own, without a mark.
func TestShapeOfTheQueue(t *testing.T) {
	fullPaper().put(api.RegionHead, 0, 0).wantNoLook(t, "no slot", api.ErrShape)
	fullPaper().put(api.RegionHead, 0, 0).put(api.RegionTail, 0, 0).wantNoLook(t, "no slot, and no Tail", api.ErrShape)
	for _, w := range append(noLinks, 0, marked(-1), marked(0), marked(1), marked(2), link(3), link(4), link(7), link(11), link(17), link(19), link(20), link(api.MaxIndex)) {
		fullPaper().put(api.RegionTail, 0, w).wantNoLook(t, "Tail "+strconv.FormatUint(w, 16), api.ErrShape)
	}
	fullPaper().put(api.RegionHead, 0, link(1)).put(api.RegionTail, 0, link(0)).wantNoLook(t, "a Tail that is behind Head", api.ErrShape)
}

// P10.3: the keys of a list rise strictly, those of marked slots too.
func TestShapeOfKeys(t *testing.T) {
	for _, c := range []struct {
		slot int
		key  int
	}{
		{7, 0}, {7, 1}, {8, -5}, {8, -6}, {8, 2}, {8, 3}, {8, math.MinInt}, {9, 0}, {9, -1}, {9, 9}, {9, math.MaxInt}, {10, 2}, {10, math.MinInt},
		{11, 3}, {11, 6}, {12, -1}, {12, 9}, {12, 12}, {13, 3}, {13, 0}, {13, -4}, {14, 4}, {14, 7}, {15, -3}, {15, -6},
	} {
		fullPaper().put(api.RegionValue, c.slot, uint64(c.key)).wantNoLook(t, "slot "+strconv.Itoa(c.slot)+" with the key "+strconv.Itoa(c.key), api.ErrShape)
	}
	for _, slot := range []int{7, 8, 9, 10} { // as unsigned words they would rise
		fullPaper().put(api.RegionValue, 7, 0).put(api.RegionValue, 8, 1).put(api.RegionValue, 9, 2).put(api.RegionValue, 10, 3).
			put(api.RegionValue, slot, math.MaxUint64-uint64(10-slot)).put(api.RegionLink, slot, 0).wantNoLookBut(t, slot == 7)
	}
	// The stack's values and the queue's need not.
	p := fullPaper()
	for _, slot := range []int{0, 1, 2, 4, 5, 6} {
		p.put(api.RegionValue, slot, 1)
	}
	want := fullContents()
	want.Stack, want.Queue = []int{1, 1, 1}, []int{1, 1}
	p.wantLook(t, "values that are the same", want)
}

// wantNoLookBut asks that Look refuses the words, or, in one case, that it doesn't.
func (p *paper) wantNoLookBut(t *testing.T, looks bool) {
	t.Helper()
	want := fullContents()
	want.Set = []int{-4}
	if looks {
		p.wantLook(t, "one key", want)
	} else {
		p.wantNoLook(t, "keys that rise as words", api.ErrShape)
	}
}

// P10.3: the keys of a bucket's slots are the bucket's, those of marked slots too.
func TestShapeOfBuckets(t *testing.T) {
	for _, c := range []struct {
		slot int
		key  int
	}{
		{11, -2}, {11, -3}, {12, 4}, {12, 5}, {13, 10}, {13, 11}, {13, math.MaxInt}, {14, 2}, {14, -1}, {15, 3}, {15, 5}, {16, 3}, {16, -3}, {16, 1},
	} {
		fullPaper().put(api.RegionValue, c.slot, uint64(c.key)).wantNoLook(t, "slot "+strconv.Itoa(c.slot)+" with the key "+strconv.Itoa(c.key), api.ErrShape)
	}
	for _, c := range []struct {
		slot int
		key  int
	}{{11, -4}, {12, 0}, {12, 6}, {14, -6}, {14, 1}, {15, 7}, {16, 5}, {16, -2}} { // these fit
		p := fullPaper().put(api.RegionValue, c.slot, uint64(c.key))
		if want, shaped := plainLook(p.c, p.words); !shaped {
			t.Errorf("%+v doesn't fit", c)
		} else {
			p.wantLook(t, "a key that fits", want)
		}
	}
	fullPaper().put(api.RegionBucket, 0, link(16)).put(api.RegionBucket, 2, 0).wantNoLook(t, "another bucket's chain", api.ErrShape)
	fullPaper().put(api.RegionBucket, 0, link(14)).put(api.RegionBucket, 1, link(11)).wantNoLook(t, "two buckets that have changed places", api.ErrShape)
}
