package chain_test

import (
	"math"
	"testing"

	"reclaim/api"
	"reclaim/chain"
	"reclaim/word"
)

var config = api.Config{Threads: 2, Records: 2, Hazards: 3, Retire: 1, Cache: 0, Slots: 3, Buckets: 2}

// Each place that there is has its address; all others have none.
func TestAddr(t *testing.T) {
	size, _ := word.Size(config)
	for addr := range size {
		p, _ := word.At(config, addr)
		if got := chain.Addr(config, p); got != addr {
			t.Errorf("Addr(%+v) = %d, not %d", p, got, addr)
		}
	}
	for _, p := range []api.Place{
		{}, {Region: api.RegionLink, I: 3}, {Region: api.RegionLink, I: -1}, {Region: api.RegionTop, I: 1},
		{Region: api.RegionHazard, I: 1, K: 3}, {Region: api.RegionValue, I: math.MaxInt}, {Region: 99},
	} {
		if got := chain.Addr(config, p); got != chain.None {
			t.Errorf("Addr(%+v) = %d", p, got)
		}
	}
	if got := chain.Addr(api.Config{}, api.Place{Region: api.RegionTop}); got != chain.None {
		t.Errorf("Addr over no configuration = %d", got)
	}
}

// A plain link to a slot that there is names it; no other word names one.
func TestSlot(t *testing.T) {
	for slot := range 3 {
		if w := chain.Link(slot); w != uint64(slot+1) || chain.Slot(config, w) != slot {
			t.Errorf("Link(%d) = %x, Slot of it %d", slot, w, chain.Slot(config, w))
		}
	}
	if chain.Link(chain.None) != 0 {
		t.Errorf("Link to none = %x", chain.Link(chain.None))
	}
	for _, w := range []uint64{0, 4, 5, 1 << 31, 1<<31 - 1, 1 << 32, 1<<32 + 1, 1<<33 + 1, math.MaxUint64} {
		if got := chain.Slot(config, w); got != chain.None {
			t.Errorf("Slot(%x) = %d", w, got)
		}
	}
}
