package word_test

import (
	"math"
	"testing"

	"reclaim/api"
	"reclaim/word"
)

const lastSlot = 1<<31 - 2

// slots are slots' numbers at the edges of their range and inside it, none among them.
func slots() []int {
	return []int{-1, 0, 1, 2, 7, 1023, 1024, 1<<16 - 1, 1 << 16, 1 << 30, lastSlot - 1, lastSlot}
}

// noSlots are numbers that are neither a slot's nor none.
func noSlots() []int {
	return []int{-2, -3, math.MinInt, -1 << 32, lastSlot + 1, lastSlot + 2, 1<<32 - 1, 1 << 32, 1<<32 + 7, math.MaxInt}
}

// P1.2, the chapter's example 1 and the edges.
func TestLink(t *testing.T) {
	for _, x := range []struct {
		index int
		mark  bool
		w     uint64
	}{
		{-1, false, 0},
		{-1, true, 4294967296},
		{0, false, 1},
		{0, true, 4294967297},
		{7, false, 8},
		{7, true, 4294967304},
		{lastSlot, false, 2147483647},
		{lastSlot, true, 6442450943},
	} {
		if w, e := word.Link(x.index, x.mark); w != x.w || e != api.OK {
			t.Errorf("Link(%d, %v) = %d, %d", x.index, x.mark, w, e)
		}
		if i, m, e := word.Unlink(x.w); i != x.index || m != x.mark || e != api.OK {
			t.Errorf("Unlink(%d) = %d, %v, %d", x.w, i, m, e)
		}
	}
}

// P1.2.
func TestLinkOfNoSlot(t *testing.T) {
	for _, i := range noSlots() {
		for _, mark := range []bool{false, true} {
			if w, e := word.Link(i, mark); w != 0 || e != api.ErrRange {
				t.Errorf("Link(%d, %v) = %d, %d", i, mark, w, e)
			}
		}
	}
}

// P1.2: each bit above the mark, and low bits that are beyond the last slot, make a word no link.
func TestUnlinkOfNoLink(t *testing.T) {
	wrong := []uint64{2147483648, 2147483649, 1<<32 - 1, 1<<32 + 1<<31, 1<<33 - 1, math.MaxUint64}
	for bit := 33; bit < 64; bit++ {
		wrong = append(wrong, 1<<bit, 1<<bit|8, 1<<bit|1<<32|8)
	}
	for _, w := range wrong {
		if i, m, e := word.Unlink(w); i != 0 || m || e != api.ErrWord {
			t.Errorf("Unlink(%d) = %d, %v, %d", w, i, m, e)
		}
	}
}

// P1.3, the chapter's example 2 and the edges.
func TestHead(t *testing.T) {
	for _, x := range []struct {
		tag   uint32
		index int
		w     uint64
	}{
		{0, -1, 0},
		{0, 0, 1},
		{1, -1, 4294967296},
		{3, 7, 12884901896},
		{0, lastSlot, 2147483647},
		{math.MaxUint32, -1, 18446744069414584320},
		{math.MaxUint32, lastSlot, 18446744071562067967},
	} {
		if w, e := word.Head(x.tag, x.index); w != x.w || e != api.OK {
			t.Errorf("Head(%d, %d) = %d, %d", x.tag, x.index, w, e)
		}
		if tag, i, e := word.Unhead(x.w); tag != x.tag || i != x.index || e != api.OK {
			t.Errorf("Unhead(%d) = %d, %d, %d", x.w, tag, i, e)
		}
	}
}

// P1.3.
func TestHeadOfNoSlot(t *testing.T) {
	for _, i := range noSlots() {
		for _, tag := range []uint32{0, 1, math.MaxUint32} {
			if w, e := word.Head(tag, i); w != 0 || e != api.ErrRange {
				t.Errorf("Head(%d, %d) = %d, %d", tag, i, w, e)
			}
		}
	}
}

// P1.3.
func TestUnheadOfNoHead(t *testing.T) {
	for _, w := range []uint64{2147483648, 2147483649, 1<<32 - 1, 1<<32 + 1<<31, 1<<63 + 1<<31, math.MaxUint64} {
		if tag, i, e := word.Unhead(w); tag != 0 || i != 0 || e != api.ErrWord {
			t.Errorf("Unhead(%d) = %d, %d, %d", w, tag, i, e)
		}
	}
}

// P1.4 and P4: every int is a word and every word an int.
func TestNumber(t *testing.T) {
	for _, x := range []struct {
		v int
		w uint64
	}{
		{0, 0},
		{1, 1},
		{-1, math.MaxUint64},
		{-2, math.MaxUint64 - 1},
		{1 << 32, 1 << 32},
		{-1 << 31, math.MaxUint64 - 1<<31 + 1},
		{math.MaxInt, 1<<63 - 1},
		{math.MinInt, 1 << 63},
	} {
		if w := word.Number(x.v); w != x.w {
			t.Errorf("Number(%d) = %d", x.v, w)
		}
		if v := word.Value(x.w); v != x.v {
			t.Errorf("Value(%d) = %d", x.w, v)
		}
	}
}
