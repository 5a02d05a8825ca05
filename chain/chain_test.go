package chain_test

import (
	"math"
	"testing"

	"reclaim/api"
	"reclaim/chain"
	"reclaim/word"
)

var config = api.Config{Threads: 2, Records: 2, Hazards: 3, Retire: 1, Cache: 0, Slots: 3, Buckets: 2}

// Each place that there is has its address; all others have none.
func TestAddr(t *testing.T) {
	size, _ := word.Size(config)
	for addr := range size {
		p, _ := word.At(config, addr)
		if got := chain.Addr(config, p); got != addr {
			t.Errorf("Addr(%+v) = %d, not %d", p, got, addr)
		}
	}
	for _, p := range []api.Place{
		{}, {Region: api.RegionLink, I: 3}, {Region: api.RegionLink, I: -1}, {Region: api.RegionTop, I: 1},
		{Region: api.RegionHazard, I: 1, K: 3}, {Region: api.RegionValue, I: math.MaxInt}, {Region: 99},
	} {
		if got := chain.Addr(config, p); got != chain.None {
			t.Errorf("Addr(%+v) = %d", p, got)
		}
	}
	if got := chain.Addr(api.Config{}, api.Place{Region: api.RegionTop}); got != chain.None {
		t.Errorf("Addr over no configuration = %d", got)
	}
}

// A plain link to a slot that there is names it; no other word names one.
func TestSlot(t *testing.T) {
	for slot := range 3 {
		if w := chain.Link(slot); w != uint64(slot+1) || chain.Slot(config, w) != slot {
			t.Errorf("Link(%d) = %x, Slot of it %d", slot, w, chain.Slot(config, w))
		}
	}
	if chain.Link(chain.None) != 0 {
		t.Errorf("Link to none = %x", chain.Link(chain.None))
	}
	for _, w := range []uint64{0, 4, 5, 1 << 31, 1<<31 - 1, 1 << 32, 1<<32 + 1, 1<<33 + 1, math.MaxUint64} {
		if got := chain.Slot(config, w); got != chain.None {
			t.Errorf("Slot(%x) = %d", w, got)
		}
	}
}

// A link has a mark or not, with a slot or with none; a word that is no link has none, and gets none.
func TestMarks(t *testing.T) {
	for _, slot := range []int{-1, 0, 2, 7, api.MaxIndex} {
		plain, _ := word.Link(slot, false)
		marked, _ := word.Link(slot, true)
		if chain.Marked(plain) || !chain.Marked(marked) {
			t.Errorf("Marked of slot %d: %v, %v", slot, chain.Marked(plain), chain.Marked(marked))
		}
		for _, w := range []uint64{plain, marked} {
			if chain.Mark(w, true) != marked || chain.Mark(w, false) != plain {
				t.Errorf("Mark(%x) = %x, %x", w, chain.Mark(w, true), chain.Mark(w, false))
			}
		}
	}
	for _, w := range []uint64{1<<31 + 7, 1<<32 - 1, 1 << 33, 1<<33 + 1<<32 + 1, math.MaxUint64} {
		if chain.Marked(w) || chain.Mark(w, true) != w || chain.Mark(w, false) != w {
			t.Errorf("%x: %v, %x, %x", w, chain.Marked(w), chain.Mark(w, true), chain.Mark(w, false))
		}
	}
}
