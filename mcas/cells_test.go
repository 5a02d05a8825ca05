package mcas_test

import (
	"math"
	"slices"
	"testing"

	"reclaim/api"
	"reclaim/mcas"
)

// paper is words that are written by hand.
type paper struct {
	c     api.Multi
	words []uint64
}

func paperOf(t *testing.T, c api.Multi) *paper {
	t.Helper()
	words, e := mcas.Words(c)
	if e != api.OK {
		t.Fatalf("Words(%+v) = %d", c, e)
	}
	return &paper{c, words}
}

// put is a copy with another word at an address.
func (p *paper) put(addr int, w uint64) *paper {
	words := slices.Clone(p.words)
	words[addr] = w
	return &paper{p.c, words}
}

func (p *paper) want(t *testing.T, what string, want ...int) {
	t.Helper()
	if got, e := mcas.Cells(p.c, p.words); !slices.Equal(got, want) || e != api.OK {
		t.Errorf("%s: Cells = %v, %d, not %v", what, got, e, want)
	}
}

// wantNone asks that the words are none, also of Holds, whatever the calls are.
func (p *paper) wantNone(t *testing.T, what string) {
	t.Helper()
	if got, e := mcas.Cells(p.c, p.words); got != nil || e != api.ErrMultiRun {
		t.Errorf("%s: Cells = %v, %d", what, got, e)
	}
	for _, calls := range [][]api.Call{nil, {{Op: api.OpMultiRead, End: 2, Point: -1}}, {{Op: api.OpMultiRead, Begin: 1, End: 2, Point: 2, Answer: value(5)}}} {
		if so, e := mcas.Holds(p.c, api.Run{Words: p.words, Calls: calls}); so || e != api.ErrMultiRun {
			t.Errorf("%s: Holds = %v, %d", what, so, e)
		}
	}
}

// P25.7: as many words as Words tells.
func TestCellsOfSoManyWords(t *testing.T) {
	for _, c := range []api.Multi{example(), least(), greatest(), three()} {
		p := paperOf(t, c)
		p.want(t, "all", c.Cells...)
		for _, words := range [][]uint64{nil, {}, p.words[:1], p.words[:len(c.Cells)], p.words[:len(p.words)-1], append(slices.Clone(p.words), 0),
			append(slices.Clone(p.words), p.words...), make([]uint64, api.MaxWords)} {
			(&paper{c, words}).wantNone(t, "other words")
		}
	}
}

// P25.7: 4 times a value from 0 to the greatest.
func TestCellsOfValues(t *testing.T) {
	p := paperOf(t, example())
	p.put(1, 0).want(t, "the least", 5, 0, 7)
	p.put(1, 4*(1<<20-1)).want(t, "the greatest", 5, 1<<20-1, 7)
	for _, w := range []uint64{4 << 20, 4<<20 + 4, 1 << 32, 1 << 62, 1 << 63, math.MaxUint64 - 3} {
		for cell := range 3 {
			p.put(cell, w).wantNone(t, "a value above the greatest")
		}
	}
	for _, w := range []uint64{3, 7, 23, math.MaxUint64, 1<<63 + 3} {
		for cell := range 3 {
			p.put(cell, w).wantNone(t, "a word that is none of the kinds")
		}
	}
}

// P25.7: 4 * d + 2: by the descriptor's status, the entry's Old or New.
func TestCellsOfDescriptors(t *testing.T) {
	c := three()
	for d := range 9 {
		p := paperOf(t, c).put(0, uint64(held(d))).put(1, uint64(held((d+1)%9)))
		p = p.put(numberAt(c, d), 0).put(numberAt(c, (d+1)%9), 6)
		p.want(t, "undecided", 5, 6, 7)
		p.put(statusAt(c, d), 1).want(t, "one has succeeded", 8, 6, 7)
		p.put(statusAt(c, (d+1)%9), 1).want(t, "the other has succeeded", 5, 1, 7)
		p.put(statusAt(c, d), 2).put(statusAt(c, (d+1)%9), 2).want(t, "both have failed", 5, 6, 7)
		for _, status := range []uint64{3, 4, 1 << 32, 1<<32 + 1, math.MaxUint64} {
			p.put(statusAt(c, d), status).wantNone(t, "a status above 2")
			p.put(statusAt(c, (d+1)%9), status).wantNone(t, "a status above 2")
			p.put(statusAt(c, (d+2)%9), status).want(t, "a status that nobody asks", 5, 6, 7)
		}
		for _, number := range []uint64{9, 10, 1 << 32, 1 << 63, math.MaxUint64} {
			p.put(numberAt(c, d), number).wantNone(t, "a number of no swap")
			p.put(numberAt(c, (d+2)%9), number).want(t, "a number that nobody asks", 5, 6, 7)
		}
		p.put(numberAt(c, d), 1).wantNone(t, "a swap that has no entry of the cell")
		p.put(numberAt(c, (d+1)%9), 0).wantNone(t, "a swap that has entries of the cells beside it")
		p.put(2, uint64(held(d))).want(t, "it holds both", 5, 6, 7)
		p.put(2, uint64(held(d))).put(statusAt(c, d), 1).want(t, "it holds both, and has succeeded", 8, 6, 9)
		p.put(2, uint64(held((d+1)%9))).wantNone(t, "it holds a cell too many")
	}
	for _, d := range []int{9, 10, 1 << 20, 1 << 61} {
		paperOf(t, c).put(0, uint64(held(d))).wantNone(t, "a descriptor that there isn't")
	}
	paperOf(t, c).put(0, math.MaxUint64-1).wantNone(t, "a descriptor that there isn't")
	none := changed(c, func(c *api.Multi) { c.Swaps = nil })
	paperOf(t, none).put(0, 2).wantNone(t, "there is no swap")
}

// The cell's entry is looked for among all of the swap's; its Old is the entry's, not what the cell was at first.
func TestCellsOfEachEntry(t *testing.T) {
	swap := swapOf([3]int{1, 11, 21}, [3]int{3, 13, 23}, [3]int{4, 14, 24}, [3]int{6, 16, 26})
	c := api.Multi{Threads: 2, Cells: make([]int, 8), Swaps: [][]api.MultiEntry{swap[:1], swap}, Uses: 2}
	for cell := range 8 {
		for status := range 3 {
			held := paperOf(t, c).put(cell, uint64(held(2))).put(numberAt(c, 2), 1).put(statusAt(c, 2), uint64(status))
			at := slices.IndexFunc(swap, func(e api.MultiEntry) bool { return e.Cell == cell })
			if at < 0 {
				held.wantNone(t, "a cell of no entry")
				continue
			}
			want := make([]int, 8)
			want[cell] = swap[at].Old
			for i := range 4 {
				p := paperOf(t, c).put(cell, uint64(marked(1, 9))).put(recordAt(c, 1), uint64(recorded(9, 2, i)))
				p = p.put(numberAt(c, 2), 1).put(statusAt(c, 2), uint64(status))
				if i == at {
					p.want(t, "a mark of the entry", want...)
				} else {
					p.wantNone(t, "a mark of another entry")
				}
			}
			if status == 1 {
				want[cell] = swap[at].New
			}
			held.want(t, "held", want...)
		}
	}
}

// P25.7: a mark: its thread's record, of the same put, names the entry, whose Old it is.
func TestCellsOfMarks(t *testing.T) {
	c := three()
	for thread := range 3 {
		for _, put := range []int{1, 2, 3, 16, 1000, 1 << 50} {
			good := paperOf(t, c).put(2, uint64(marked(thread, put))).put(recordAt(c, thread), uint64(recorded(put, 4, 1))).put(0, 80)
			good.want(t, "a mark", 20, 6, 7)
			for _, status := range []uint64{1, 2, 3, math.MaxUint64} {
				good.put(statusAt(c, 4), status).want(t, "a mark, whatever the status is", 20, 6, 7)
			}
			for _, other := range []int{put - 1, put + 1, put + 1<<51} {
				good.put(recordAt(c, thread), uint64(recorded(other, 4, 1))).wantNone(t, "a record of another put")
			}
			good.put(recordAt(c, thread), 0).wantNone(t, "no record")
			good.put(2, uint64(marked(thread, put+1))).wantNone(t, "a mark of another put")
			good.put(2, uint64(marked(thread, put))+1<<63).wantNone(t, "a mark of a put that no record can be of")
			good.put(2, uint64(marked((thread+1)%3, put))).wantNone(t, "a mark of another thread")
			for _, d := range []int{9, 10, 1023} {
				good.put(recordAt(c, thread), uint64(recorded(put, d, 1))).wantNone(t, "a descriptor that there isn't")
			}
			for _, i := range []int{0, 2, 3} {
				good.put(recordAt(c, thread), uint64(recorded(put, 4, i))).wantNone(t, "an entry of another cell, or that there isn't")
			}
			good.put(1, uint64(marked(thread, put))).wantNone(t, "another cell")
			for _, number := range []uint64{1, 2, 6, 9, 1 << 32, 1 << 63, math.MaxUint64} {
				good.put(numberAt(c, 4), number).wantNone(t, "another number")
			}
			other := good.put(numberAt(c, 4), 7)
			other.want(t, "another swap with an entry of the cell, and another Old", 20, 6, 1)
		}
		zero := paperOf(t, c).put(2, uint64(marked(thread, 0)))
		zero.wantNone(t, "put 0")
		zero.put(recordAt(c, thread), uint64(recorded(0, 4, 1))).wantNone(t, "put 0, of which there is a record")
	}
	for thread := 3; thread < 16; thread++ {
		p := paperOf(t, c).put(2, uint64(marked(thread, 1)))
		for addr := 3; addr < len(p.words); addr++ {
			p = p.put(addr, uint64(recorded(1, 0, 1)))
		}
		p.put(numberAt(c, 0), 0).wantNone(t, "a thread that there isn't")
	}
}

// The last thread's mark, the last descriptor, the last entry.
func TestCellsAtTheLimits(t *testing.T) {
	c := greatest()
	top, want := 1<<20-1, slices.Clone(c.Cells)
	p := paperOf(t, c).put(numberAt(c, 1023), 15)
	p.put(31, uint64(held(1023))).want(t, "the last descriptor", want...)
	p.put(31, uint64(held(1024))).wantNone(t, "one more")
	p.put(31, uint64(marked(15, 3))).put(recordAt(c, 15), uint64(recorded(3, 1023, 3))).want(t, "the last thread", want...)
	want[30] = 0
	p = p.put(30, uint64(held(1023))).put(statusAt(c, 1023), 1)
	p.want(t, "another entry", want...)
	want[1], want[0] = top, 9
	p.put(1, uint64(held(1023))).put(0, 36).want(t, "several", want...)
}

// cellsOf is P25.7 by its words, in the simplest way.
func cellsOf(c api.Multi, words []uint64) ([]int, api.Errno) {
	if len(words) != sizeOf(c) {
		return nil, api.ErrMultiRun
	}
	entryOf := func(d uint64, cell int) (api.MultiEntry, int, bool) {
		if d < uint64(c.Threads*c.Uses) {
			if number := words[numberAt(c, int(d))]; number < uint64(len(c.Swaps)) {
				for i, e := range c.Swaps[number] {
					if e.Cell == cell {
						return e, i, true
					}
				}
			}
		}
		return api.MultiEntry{}, 0, false
	}
	var list []int
	for cell, w := range words[:len(c.Cells)] {
		holds, ok := -1, true
		switch q := w / 4; w % 4 {
		case 0:
			holds, ok = int(q), q < 1<<20
		case 1:
			thread, put := q%16, q/16
			if ok = thread < uint64(c.Threads) && put > 0; ok {
				of := words[recordAt(c, int(thread))]
				e, i, some := entryOf(of%4096/4, cell)
				holds, ok = e.Old, some && of/4096 == put && uint64(i) == of%4
			}
		case 2:
			var e api.MultiEntry
			if e, _, ok = entryOf(q, cell); ok {
				status := words[statusAt(c, int(q))]
				holds, ok = []int{e.Old, e.New, e.Old, 0}[min(status, 3)], status < 3
			}
		case 3:
			ok = false
		}
		if !ok {
			return nil, api.ErrMultiRun
		}
		list = append(list, holds)
	}
	return list, api.OK
}

func wantCellsOf(t *testing.T, c api.Multi, words []uint64) string {
	t.Helper()
	got, e := mcas.Cells(c, words)
	want, f := cellsOf(c, words)
	if !slices.Equal(got, want) || e != f {
		t.Fatalf("%+v: Cells(%d) = %v, %d, not %v, %d", c, words, got, e, want, f)
	}
	if e == api.OK {
		return "some"
	}
	return "none"
}

// P25.7 of true words, and of such with a single word that is another.
func TestCellsOfSpoiltWords(t *testing.T) {
	met, d := map[string]int{}, dice(12)
	eachChance(400, func(c api.Multi, moves []api.Move) {
		words := playOf(t, c, moves...).Words
		if wantCellsOf(t, c, words) != "some" {
			t.Fatal("true words are none")
		}
		for range 40 {
			spoilt := slices.Clone(words)
			for range 1 + d.below(3) {
				spoil(&d, c, spoilt)
			}
			met[wantCellsOf(t, c, spoilt)]++
		}
	})
	wantMet(t, met, 2000, "some", "none")
}

// spoil makes one word another, which is a likely one.
func spoil(d *dice, c api.Multi, words []uint64) {
	addr := d.below(len(words))
	if d.below(2) == 0 {
		addr = d.below(len(c.Cells))
	}
	switch d.below(8) {
	case 0:
		words[addr] += uint64(d.below(9) - 4)
	case 1:
		words[addr] = uint64(held(d.below(c.Threads*c.Uses + 1)))
	case 2:
		thread := d.below(c.Threads)
		words[addr] = uint64(marked(thread, int(words[recordAt(c, thread)]/4096)))
	case 3:
		words[addr] = uint64(d.below(4))
	case 4:
		words[numberAt(c, d.below(c.Threads*c.Uses))] = uint64(d.below(len(c.Swaps) + 1))
	case 5:
		words[statusAt(c, d.below(c.Threads*c.Uses))] = uint64(d.below(4))
	case 6:
		words[addr] = words[d.below(len(words))]
	case 7:
		thread, d := d.below(c.Threads), d.below(c.Threads*c.Uses+1)
		words[recordAt(c, thread)] = words[recordAt(c, thread)]/4096*4096 + uint64(d*4+int(words[addr]%4))
	}
}
