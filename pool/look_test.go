package pool_test

import (
	"math"
	"slices"
	"testing"

	"reclaim/api"
	"reclaim/pool"
	"reclaim/word"
)

// fullPaper is a memory of three buckets in which each object holds something, and slots 8 and 12 have a mark.
//
//	queue: 0, 1, 2 with Tail at 1; cell: 3; stack: 4, 5, 6; list: 7, 8, 9, 10;
//	buckets: 11, 12, 13 and 14, 15 and 16; free: 18, 17, 19
func fullPaper() *paper {
	p := paperOf(configOf(2, 1, 1, 0, 20, 3))
	p.put(api.RegionHead, 0, link(0)).put(api.RegionTail, 0, link(1))
	p.slot(0, 77, 0, link(1)).slot(1, -4, 0, link(2)).slot(2, 6, 0, 0)
	p.put(api.RegionCell, 0, link(3)).slot(3, -9, 0, math.MaxUint64)
	p.put(api.RegionTop, 0, link(4)).slot(4, 3, 0, link(5)).slot(5, -3, 0, link(6)).slot(6, 3, 0, 0)
	p.put(api.RegionRoot, 0, link(7))
	p.slot(7, -5, 1, link(8)).slot(8, 0, 1, marked(9)).slot(9, 2, 1, link(10)).slot(10, 9, 1, 0)
	p.put(api.RegionBucket, 0, link(11)).slot(11, -1, -10, link(12)).slot(12, 3, 30, marked(13)).slot(13, 9, 90, 0)
	p.put(api.RegionBucket, 1, link(14)).slot(14, -3, 33, link(15)).slot(15, 4, math.MinInt, 0)
	p.put(api.RegionBucket, 2, link(16)).slot(16, 2, 20, 0)
	p.put(api.RegionFree, 0, head(5, 18))
	return p.put(api.RegionSpare, 18, link(17)).put(api.RegionSpare, 17, link(19)).put(api.RegionSpare, 19, 0)
}

// fullContents is what it holds: 3's bucket is 0, and -3 is in bucket 1, since 2^64 - 3 leaves 1.
func fullContents() api.Contents {
	return api.Contents{
		Cell: []int{-9}, Stack: []int{3, -3, 3}, Queue: []int{-4, 6}, Set: []int{-5, 2, 9},
		Table: []api.Pair{{Key: -3, Value: 33}, {Key: -1, Value: -10}, {Key: 2, Value: 20}, {Key: 4, Value: math.MinInt}, {Key: 9, Value: 90}},
	}
}

// P10.3: what the objects hold: values, keys and data below 0; slots with a mark left out; the table's keys
// rising over its buckets.
func TestLook(t *testing.T) {
	p := fullPaper()
	p.wantLook(t, "a full memory", fullContents())
	p.wantFree(t, "a full memory", 18, 17, 19)
}

// P10.3: each object may hold nothing while the others do.
func TestLookOfEmptyObjects(t *testing.T) {
	for _, c := range []struct {
		what  string
		clear func(p *paper)
		left  func(x *api.Contents)
	}{
		{"cell", func(p *paper) { p.put(api.RegionCell, 0, 0) }, func(x *api.Contents) { x.Cell = nil }},
		{"stack", func(p *paper) { p.put(api.RegionTop, 0, 0) }, func(x *api.Contents) { x.Stack = nil }},
		{"queue", func(p *paper) { p.put(api.RegionLink, 0, 0).put(api.RegionTail, 0, link(0)) }, func(x *api.Contents) { x.Queue = nil }},
		{"set", func(p *paper) { p.put(api.RegionRoot, 0, 0) }, func(x *api.Contents) { x.Set = nil }},
		{"bucket 0", func(p *paper) { p.put(api.RegionBucket, 0, 0) },
			func(x *api.Contents) { x.Table = []api.Pair{x.Table[0], x.Table[2], x.Table[3]} }},
		{"bucket 1", func(p *paper) { p.put(api.RegionBucket, 1, 0) },
			func(x *api.Contents) { x.Table = []api.Pair{x.Table[1], x.Table[2], x.Table[4]} }},
		{"bucket 2", func(p *paper) { p.put(api.RegionBucket, 2, 0) },
			func(x *api.Contents) { x.Table = []api.Pair{x.Table[0], x.Table[1], x.Table[3], x.Table[4]} }},
		{"a list of marked slots", func(p *paper) {
			for slot := 7; slot <= 9; slot++ {
				p.put(api.RegionLink, slot, marked(slot+1))
			}
			p.put(api.RegionLink, 10, marked(-1))
		}, func(x *api.Contents) { x.Set = nil }},
		{"a bucket of a marked slot", func(p *paper) { p.put(api.RegionLink, 16, marked(-1)) },
			func(x *api.Contents) { x.Table = slices.Delete(x.Table, 2, 3) }},
	} {
		p, want := fullPaper(), fullContents()
		c.clear(p)
		c.left(&want)
		p.wantLook(t, "without "+c.what, want)
	}
}

// P10.3: Tail may name any slot of the queue's chain.
func TestLookOfTails(t *testing.T) {
	for tail := range 3 {
		fullPaper().put(api.RegionTail, 0, link(tail)).wantLook(t, "another Tail", fullContents())
	}
}

// P10.3: the first slot that Head names stands for nothing, whichever it is.
func TestLookOfDummies(t *testing.T) {
	p := fullPaper().put(api.RegionHead, 0, link(1))
	want := fullContents()
	want.Queue = []int{6}
	p.wantLook(t, "Head at slot 1", want)
	p.put(api.RegionHead, 0, link(2)).wantNoLook(t, "Head beyond Tail", api.ErrShape)
	want.Queue = nil
	p.put(api.RegionTail, 0, link(2)).wantLook(t, "Head at slot 2", want)
}

// P10.3: the greatest and the least values, keys and data.
func TestLookOfGreatNumbers(t *testing.T) {
	const least, most = math.MinInt, math.MaxInt
	p := fullPaper()
	p.put(api.RegionValue, 3, word.Number(least)).put(api.RegionValue, 4, word.Number(most)).put(api.RegionValue, 1, word.Number(least))
	p.put(api.RegionValue, 7, word.Number(least)).put(api.RegionValue, 10, word.Number(most)).put(api.RegionData, 16, word.Number(most))
	want := fullContents()
	want.Cell[0], want.Stack[0], want.Queue[0], want.Set[0], want.Set[2], want.Table[2].Value = least, most, least, least, most, most
	p.wantLook(t, "great numbers", want)
	// The keys of bucket 2 are those that leave 2, as words: the least int is 2^63, and leaves 2; the greatest one leaves 1.
	p.slot(16, least, 1, link(17)).slot(17, 2, 2, 0)
	want.Table = slices.Concat([]api.Pair{{Key: least, Value: 1}}, want.Table)
	want.Table[3].Value = 2
	p.wantLook(t, "the least key", want)
	p.put(api.RegionValue, 15, word.Number(most))
	want.Table = append(slices.Delete(want.Table, 4, 5), api.Pair{Key: most, Value: least})
	p.wantLook(t, "the greatest key", want)
}

// P10.3: slots may stand in a chain in any order, and a chain may have all of them.
func TestLookOfLongChains(t *testing.T) {
	c := edges()[1]
	p := paperOf(c)
	p.put(api.RegionTop, 0, link(1023))
	var want api.Contents
	for slot := 1023; slot > 0; slot-- {
		p.slot(slot, slot, 0, link(slot-1))
		want.Stack = append(want.Stack, slot)
	}
	p.put(api.RegionLink, 1, 0)
	p.wantLook(t, "a long stack", want)
	p.put(api.RegionLink, 1, link(1023)).wantNoLook(t, "a great ring", api.ErrShape)

	p = paperOf(c)
	p.put(api.RegionFree, 0, 0).put(api.RegionTail, 0, link(700))
	want = api.Contents{}
	for slot := range 1023 {
		p.slot(slot, -slot, 0, link(slot+1))
		want.Queue = append(want.Queue, -slot-1)
	}
	p.slot(1023, -1023, 0, 0)
	p.wantLook(t, "a long queue", want)
	p.wantFree(t, "a long queue")

	p = paperOf(c)
	want = api.Contents{}
	for slot := 1; slot < 1024; slot++ { // each bucket has fifteen or sixteen keys, of which the ninth one is marked
		next := link(slot + 64)
		if slot+64 >= 1024 {
			next = 0
		}
		if slot/64 == 8 {
			next |= markBit
		} else {
			want.Table = append(want.Table, api.Pair{Key: slot, Value: 2 * slot})
		}
		p.slot(slot, slot, 2*slot, next)
	}
	for bucket := range 64 {
		first := bucket
		if bucket == 0 {
			first = 64
		}
		p.put(api.RegionBucket, bucket, link(first))
	}
	p.wantLook(t, "long buckets", want)
}

// P10.3: words of another number, ahead of what they are; a configuration that may not be ahead of that.
func TestLookRefuses(t *testing.T) {
	p := fullPaper()
	entire := p.words
	for _, count := range []int{0, 1, len(entire) - 1, len(entire) + 1, len(entire) + 20, 8192} {
		p.words = make([]uint64, count)
		copy(p.words, entire)
		p.wantNoLook(t, "another number", api.ErrRange)
		p.wantNoFree(t, "another number", api.ErrRange)
		for _, c := range oddConfigs() {
			odd := &paper{c, p.words}
			odd.wantNoLook(t, "a configuration that may not be", api.ErrConfig)
			odd.wantNoFree(t, "a configuration that may not be", api.ErrConfig)
		}
	}
	p.words = nil
	p.wantNoLook(t, "nil", api.ErrRange)
	p.wantNoFree(t, "nil", api.ErrRange)
}

// P10.3: words that one doesn't come to are not looked at, whatever stands there.
func TestLookAtNoOthers(t *testing.T) {
	for _, w := range []uint64{0, 1, 2, 5, link(8), link(20), markBit, marked(3), 1 << 31, 1 << 33, math.MaxUint64} {
		p := fullPaper()
		for addr := range p.words {
			place, _ := word.At(p.c, addr)
			slot := place.I
			switch place.Region {
			case api.RegionFree, api.RegionActive, api.RegionHazard, api.RegionSpare:
				p.words[addr] = w
			case api.RegionLink:
				if slot == 3 || slot > 16 { // the cell's, and those of slots that are in no chain
					p.words[addr] = w
				}
			case api.RegionValue:
				if slot == 0 || slot > 16 {
					p.words[addr] = w
				}
			case api.RegionData:
				if slot < 11 || slot == 12 || slot > 16 { // all but those of the table's keys
					p.words[addr] = w
				}
			}
		}
		p.wantLook(t, "other words", fullContents())
	}
}

// P10.4: Free looks at the words Free and Spare alone, of the slots that it comes to.
func TestFreeLooksAtNoOthers(t *testing.T) {
	for _, w := range []uint64{0, 1, link(17), link(18), link(20), marked(3), 1 << 31, 1 << 33, math.MaxUint64} {
		p := fullPaper()
		for addr := range p.words {
			place, _ := word.At(p.c, addr)
			if place.Region != api.RegionFree && (place.Region != api.RegionSpare || place.I < 17) {
				p.words[addr] = w
			}
		}
		p.wantFree(t, "other words", 18, 17, 19)
	}
}

// P10.4: the free list's slots, the head's first, whatever the tag.
func TestFree(t *testing.T) {
	for _, tag := range []int{0, 1, 1 << 31, 1<<32 - 1} {
		p := fullPaper().put(api.RegionFree, 0, head(tag, 18))
		p.wantFree(t, "a tag", 18, 17, 19)
		p.put(api.RegionFree, 0, head(tag, -1)).wantFree(t, "none")
		p.put(api.RegionFree, 0, head(tag, 19)).wantFree(t, "one", 19)
		p.put(api.RegionFree, 0, head(tag, 0)).put(api.RegionSpare, 0, link(4)).put(api.RegionSpare, 4, link(19)).wantFree(t, "others", 0, 4, 19)
	}
	p := paperOf(edges()[1])
	var want []int
	for slot := 1; slot < 1024; slot++ {
		want = append(want, slot)
	}
	p.wantFree(t, "all", want...)
	p.put(api.RegionSpare, 1023, link(0)).put(api.RegionSpare, 0, 0).wantFree(t, "all", append(want, 0)...)
	p.put(api.RegionSpare, 0, link(1)).wantNoFree(t, "a great ring", api.ErrShape)
}

// P10.4: words that no run could leave.
func TestFreeOfOddShapes(t *testing.T) {
	for what, spoil := range map[string]func(p *paper){
		"no head":                      func(p *paper) { p.put(api.RegionFree, 0, 1<<31) },
		"no head, with a tag":          func(p *paper) { p.put(api.RegionFree, 0, 5<<32+1<<31+7) },
		"ones":                         func(p *paper) { p.put(api.RegionFree, 0, math.MaxUint64) },
		"a head's slot that isn't":     func(p *paper) { p.put(api.RegionFree, 0, head(5, 20)) },
		"a head's greatest slot":       func(p *paper) { p.put(api.RegionFree, 0, head(0, api.MaxIndex)) },
		"a slot that isn't":            func(p *paper) { p.put(api.RegionSpare, 17, link(20)) },
		"the greatest slot":            func(p *paper) { p.put(api.RegionSpare, 17, link(api.MaxIndex)) },
		"a slot behind itself":         func(p *paper) { p.put(api.RegionSpare, 17, link(17)) },
		"the head's twice":             func(p *paper) { p.put(api.RegionSpare, 19, link(18)) },
		"another twice":                func(p *paper) { p.put(api.RegionSpare, 19, link(17)) },
		"a mark":                       func(p *paper) { p.put(api.RegionSpare, 18, marked(17)) },
		"a mark and no slot":           func(p *paper) { p.put(api.RegionSpare, 19, marked(-1)) },
		"no link":                      func(p *paper) { p.put(api.RegionSpare, 18, 1<<33+18) },
		"no link at the last":          func(p *paper) { p.put(api.RegionSpare, 19, 1<<31) },
		"ones at the head's":           func(p *paper) { p.put(api.RegionSpare, 18, math.MaxUint64) },
		"a head where a link is asked": func(p *paper) { p.put(api.RegionSpare, 17, head(2, 19)) },
	} {
		p := fullPaper()
		spoil(p)
		p.wantNoFree(t, what, api.ErrShape)
		p.wantLook(t, what, fullContents())
	}
}

// What Look tells is what calls have left: each object by its calls, slots used again.
func TestLookBehindCalls(t *testing.T) {
	c := configOf(1, 1, 1, 1, 8, 2)
	m := machineOf(t, c)
	want := api.Contents{}
	ask := func(what string) {
		t.Helper()
		p := &paper{c, m.Run().Words}
		p.wantLook(t, what, want)
	}
	call(t, m, register(0))
	for _, x := range []struct {
		mv     api.Move
		answer api.Answer
		change func()
	}{
		{move(0, api.OpPost, -8), done, func() { want.Cell = []int{-8} }},
		{move(0, api.OpPost, 9), done, func() { want.Cell = []int{9} }},
		{move(0, api.OpPush, 1), done, func() { want.Stack = []int{1} }},
		{move(0, api.OpPush, -2), done, func() { want.Stack = []int{-2, 1} }},
		{move(0, api.OpEnqueue, 3), done, func() { want.Queue = []int{3} }},
		{move(0, api.OpEnqueue, -4), done, func() { want.Queue = []int{3, -4} }},
		{move(0, api.OpDequeue, 0), value(3), func() { want.Queue = []int{-4} }},
		{move(0, api.OpInsert, 7), yes, func() { want.Set = []int{7} }},
		{move(0, api.OpPop, 0), value(-2), func() { want.Stack = []int{1} }},
		{move(0, api.OpInsert, -7), yes, func() { want.Set = []int{-7, 7} }},
		{move(0, api.OpInsert, 7), no, func() {}},
		{add(0, 5, -50), yes, func() { want.Table = []api.Pair{{Key: 5, Value: -50}} }},
		{add(0, 4, 40), yes, func() { want.Table = []api.Pair{{Key: 4, Value: 40}, {Key: 5, Value: -50}} }},
		{add(0, 5, 51), no, func() {}},
		{move(0, api.OpInsert, 0), full, func() {}},
		{move(0, api.OpDelete, 7), yes, func() { want.Set = []int{-7} }},
		{move(0, api.OpRemove, 5), value(-50), func() { want.Table = want.Table[:1] }},
		{move(0, api.OpPop, 0), value(1), func() { want.Stack = nil }},
		{move(0, api.OpPop, 0), empty, func() {}},
		{move(0, api.OpScan, 0), done, func() {}},
		{move(0, api.OpUnregister, 0), done, func() {}},
	} {
		wantCall(t, m, x.mv, x.answer)
		x.change()
		ask("a call")
	}
}

// What is on its way is told as it stands: a slot that is marked is out, one whose Tail is behind is in.
func TestLookAmidCalls(t *testing.T) {
	c := configOf(2, 2, 9, 0, 9, 1)
	m := machineOf(t, c)
	for _, mv := range []api.Move{register(0), register(1), move(0, api.OpInsert, 5), move(0, api.OpInsert, 6), add(0, 5, 50), add(0, 6, 60)} {
		call(t, m, mv)
	}
	at := func(mv api.Move, steps int, want api.Contents) {
		t.Helper()
		for _, mv := range with(mv, steps) {
			m.Move(mv)
		}
		if got, _ := m.Call(mv.Thread); got.End >= 0 {
			t.Errorf("%+v has ended", got)
		}
		p := &paper{c, m.Run().Words}
		p.wantLook(t, "amid a call", want)
		finish(t, m, mv.Thread)
		p.words = m.Run().Words
		p.wantLook(t, "behind a call", want)
	}
	both := []api.Pair{{Key: 5, Value: 50}, {Key: 6, Value: 60}}
	at(move(0, api.OpEnqueue, 3), 10, api.Contents{Queue: []int{3}, Set: []int{5, 6}, Table: both}) // Tail is behind
	at(move(1, api.OpDelete, 5), 9, api.Contents{Queue: []int{3}, Set: []int{6}, Table: both})      // the mark is there
	at(move(1, api.OpRemove, 5), 9, api.Contents{Queue: []int{3}, Set: []int{6}, Table: both[1:]})
}

// P6: what is handed in stays as it was, its spare room too; answers share nothing with it, with each other,
// or among themselves.
func TestAnswersApart(t *testing.T) {
	p := fullPaper()
	room := append(make([]uint64, 0, len(p.words)+9), p.words...)
	spare := room[:cap(room)]
	for i := len(room); i < len(spare); i++ {
		spare[i] = uint64(i)
	}
	copied := slices.Clone(spare)
	one, _ := pool.Look(p.c, room)
	free, _ := pool.Free(p.c, room)
	if !slices.Equal(spare, copied) {
		t.Error("the words are changed")
	}
	other, _ := pool.Look(p.c, room)
	others, _ := pool.Free(p.c, room)
	for _, list := range [][]int{one.Cell, one.Stack, one.Queue, one.Set, free} {
		list = list[:cap(list)]
		for i := range list {
			list[i] = 99
		}
		// Each of the lists that have not been written to yet stands as it was.
		wantOnly(t, one, free)
	}
	clear(one.Table[:cap(one.Table)])
	if !slices.Equal(spare, copied) {
		t.Error("the words are shared with an answer")
	}
	clear(spare)
	if !sameContents(other, fullContents()) || !slices.Equal(others, []int{18, 17, 19}) {
		t.Errorf("%+v, %v", other, others)
	}
}

// wantOnly asks that each list is as it is to be, or has been written over as a whole.
func wantOnly(t *testing.T, x api.Contents, free []int) {
	t.Helper()
	want := fullContents()
	for i, lists := range [][2][]int{{x.Cell, want.Cell}, {x.Stack, want.Stack}, {x.Queue, want.Queue}, {x.Set, want.Set}, {free, {18, 17, 19}}} {
		over := slices.Repeat([]int{99}, len(lists[1]))
		if !slices.Equal(lists[0], lists[1]) && !slices.Equal(lists[0], over) {
			t.Errorf("list %d is %v", i, lists[0])
		}
	}
	if !slices.Equal(x.Table, want.Table) {
		t.Errorf("the table is %v", x.Table)
	}
}

// P6: moves that are handed in stay as they were, and runs share nothing with them or with one another.
func TestRunsApart(t *testing.T) {
	script := slices.Concat(with(register(0), 2), with(move(0, api.OpPush, 5), 7), with(move(0, api.OpEnqueue, 7), 12), with(move(0, api.OpPop, 0), 13))
	room := append(make([]api.Move, 0, 70), script...)
	copied := slices.Clone(room[:cap(room)])
	r := playOf(t, example(), room...)
	if !slices.Equal(room[:cap(room)], copied) {
		t.Error("the moves are changed")
	}
	first := playOf(t, example(), room...)
	for i := range r.Words {
		r.Words[i] = 99
	}
	clear(r.Calls[:cap(r.Calls)])
	clear(r.Trace[:cap(r.Trace)])
	clear(r.Shifts[:cap(r.Shifts)])
	clear(room)
	wantRun(t, playOf(t, example(), script...), first)
}
