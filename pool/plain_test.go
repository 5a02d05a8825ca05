package pool_test

import (
	"maps"
	"math"
	"slices"
	"testing"

	"reclaim/api"
	"reclaim/pool"
	"reclaim/word"
)

// sheet is words with the addresses of the slots' regions, told by hand.
type sheet struct {
	c                        api.Config
	words                    []uint64
	spare, value, data, link int
}

func sheetOf(c api.Config, words []uint64) sheet {
	spare := 6 + c.Buckets + c.Records + c.Records*c.Hazards
	return sheet{c, words, spare, spare + c.Slots, spare + 2*c.Slots, spare + 3*c.Slots}
}

// walk gathers the slots from a word on by the words that begin at an address, with which of them have a
// mark. It goes on for as long as there are links to slots that there are, a ring for more slots than there
// are; so whoever asks finds what is wrong in what was gathered.
func (s sheet) walk(w uint64, at int) (slots []int, marks []bool, links bool) {
	for len(slots) <= s.c.Slots {
		low, high := w%(1<<32), w>>32
		switch {
		case low >= 1<<31 || high > 1:
			return slots, marks, false
		case low == 0:
			return slots, append(marks, high == 1), true
		case int(low) > s.c.Slots:
			return slots, marks, false
		}
		slots, marks = append(slots, int(low)-1), append(marks, high == 1)
		w = s.words[at+int(low)-1]
	}
	return slots, marks, false
}

// plainLook is Look as the chapter tells it, each rule by itself over all slots that were gathered; false:
// ErrShape. (marks has the begin's mark first, then that of each slot's link.)
func plainLook(c api.Config, words []uint64) (x api.Contents, shaped bool) {
	s := sheetOf(c, words)
	var all []int
	good := true
	gather := func(at int, list bool) ([]int, []bool) {
		slots, marks, links := s.walk(words[at], s.link)
		good = good && links && !marks[0] && (list || !slices.Contains(marks, true))
		all = append(all, slots...)
		return slots, marks
	}
	if cell := words[1]; cell >= 1<<31 || int(cell) > c.Slots {
		return x, false
	} else if cell > 0 {
		all = append(all, int(cell)-1)
		x.Cell = []int{int(words[s.value+int(cell)-1])}
	}
	top, _ := gather(2, false)
	for _, slot := range top {
		x.Stack = append(x.Stack, int(words[s.value+slot]))
	}
	row, _ := gather(3, false)
	for _, slot := range row {
		x.Queue = append(x.Queue, int(words[s.value+slot]))
	}
	tail := slices.IndexFunc(row, func(slot int) bool { return words[4] == link(slot) })
	table := map[int]int{}
	for number := range 1 + c.Buckets {
		slots, marks := gather(5+number, true)
		var keys []int
		for i, slot := range slots {
			key := int(words[s.value+slot])
			keys = append(keys, key)
			good = good && (number == 0 || bucketOf(key, c.Buckets) == number-1)
			switch {
			case i+1 < len(marks) && marks[i+1]:
			case number == 0:
				x.Set = append(x.Set, key)
			default:
				table[key] = int(words[s.data+slot])
			}
		}
		good = good && slices.IsSorted(keys) && len(slices.Compact(keys)) == len(slots)
	}
	slices.Sort(all)
	if !good || tail < 0 || len(slices.Compact(slices.Clone(all))) != len(all) {
		return api.Contents{}, false
	}
	x.Queue = x.Queue[1:]
	for _, key := range slices.Sorted(maps.Keys(table)) {
		x.Table = append(x.Table, api.Pair{Key: key, Value: table[key]})
	}
	return x, true
}

// plainFree is Free likewise.
func plainFree(c api.Config, words []uint64) ([]int, bool) {
	s := sheetOf(c, words)
	slots, marks, links := s.walk(words[0]%(1<<32), s.spare)
	seen := slices.Sorted(slices.Values(slots))
	if !links || slices.Contains(marks, true) || len(slices.Compact(seen)) != len(slots) {
		return nil, false
	}
	return slots, true
}

// bucketOf is a key's bucket: as a word, a key below 0 is 2^64 more than it is.
func bucketOf(key, buckets int) int {
	rest := key % buckets
	if rest < 0 {
		rest += buckets
	}
	if key < 0 {
		rest += wordsRest(buckets)
	}
	return rest % buckets
}

// wordsRest is 2^64 modulo a number.
func wordsRest(modulo int) int {
	rest := 1
	for range 64 {
		rest = 2 * rest % modulo
	}
	return rest
}

// wantPlain asks that Look and Free answer what plainLook and plainFree do.
func wantPlain(t *testing.T, p *paper, met map[string]int) {
	t.Helper()
	x, shaped := plainLook(p.c, p.words)
	got, e := pool.Look(p.c, p.words)
	if want := errnoOf(shaped); e != want || !sameContents(got, x) {
		t.Fatalf("%+v: Look(%x) = %+v, %d, not %+v, %d", p.c, p.words, got, e, x, want)
	}
	free, lists := plainFree(p.c, p.words)
	slots, e := pool.Free(p.c, p.words)
	if want := errnoOf(lists); e != want || !slices.Equal(slots, free) {
		t.Fatalf("%+v: Free(%x) = %v, %d, not %v, %d", p.c, p.words, slots, e, free, want)
	}
	met[map[bool]string{true: "a shape", false: "no shape"}[shaped]]++
	met[map[bool]string{true: "a free list", false: "no free list"}[lists]]++
	for what, length := range map[string]int{"a cell": len(x.Cell), "a stack": len(x.Stack), "a queue": len(x.Queue), "a set": len(x.Set), "a table": len(x.Table)} {
		if length > 0 {
			met[what]++
		}
	}
}

func errnoOf(shaped bool) api.Errno {
	if shaped {
		return api.OK
	}
	return api.ErrShape
}

// P10.3 and P10.4: each word of a full memory, written over by each of many words.
func TestLookOfEachWordSpoiled(t *testing.T) {
	words := []uint64{math.MaxUint64, 1 << 31, 1<<32 - 1, 1 << 33, head(2, 3), uint64(1)<<63 | 4}
	for slot := -1; slot <= 20; slot++ {
		words = append(words, link(slot), marked(slot), uint64(-slot))
	}
	met := map[string]int{}
	entire := fullPaper()
	for addr := range entire.words {
		for _, w := range words {
			p := &paper{entire.c, slices.Clone(entire.words)}
			p.words[addr] = w
			wantPlain(t, p, met)
		}
	}
	wantMet(t, met, "a shape", "no shape", "a free list", "no free list", "a cell", "a stack", "a queue", "a set", "a table")
}

// wantMet asks that all of these were met.
func wantMet(t *testing.T, met map[string]int, whats ...string) {
	t.Helper()
	for _, what := range whats {
		if met[what] == 0 {
			t.Errorf("nothing comes to %s: %v", what, met)
		}
	}
}

// chancePaper is a memory whose slots are dealt out to the objects by chance.
func chancePaper(d *dice) *paper {
	c := configOf(1, 1+d.below(2), 1, 0, 1+d.below(14), 1+d.below(4))
	p := paperOf(c)
	clear(p.words)
	deck := make([]int, c.Slots)
	for i := range deck {
		j := d.below(i + 1)
		deck[i], deck[j] = deck[j], i
	}
	deal := func(most int) []int {
		count := min(d.below(most+1), len(deck))
		hand := deck[:count]
		deck = deck[count:]
		return hand
	}
	row := func(r api.Region, i int, at api.Region, slots []int, marks bool) {
		for _, slot := range slots {
			p.words[addrOf(c, r, i)] |= link(slot)
			r, i = at, slot
			if marks && d.below(3) == 0 {
				p.put(at, slot, markBit)
			}
		}
	}
	queue := deck[:1:1]
	deck = deck[1:]
	queue = append(queue, deal(3)...)
	row(api.RegionHead, 0, api.RegionLink, queue, false)
	p.put(api.RegionTail, 0, link(queue[d.below(len(queue))]))
	row(api.RegionCell, 0, api.RegionLink, deal(1), false)
	row(api.RegionTop, 0, api.RegionLink, deal(3), false)
	row(api.RegionFree, 0, api.RegionSpare, deal(3), false)
	for slot := range c.Slots {
		p.put(api.RegionValue, slot, word.Number(d.below(20)-10)).put(api.RegionData, slot, word.Number(d.below(9)-4))
	}
	for number := range 1 + c.Buckets {
		slots, key := deal(4), d.below(6)-9
		for _, slot := range slots {
			for key += 1 + d.below(3); number > 0 && bucketOf(key, c.Buckets) != number-1; key++ {
			}
			p.put(api.RegionValue, slot, word.Number(key))
		}
		if number == 0 {
			row(api.RegionRoot, 0, api.RegionLink, slots, true)
		} else {
			row(api.RegionBucket, number-1, api.RegionLink, slots, true)
		}
	}
	return p
}

// oddWord is a word of which most kinds have a use.
func oddWord(d *dice, slots int) uint64 {
	w := link(d.below(slots+2) - 1)
	switch d.below(12) {
	case 0:
		return w | markBit
	case 1:
		return w | 1<<uint(31+d.below(33))
	case 2:
		return uint64(d.below(40)) - 20
	case 3:
		return math.MaxUint64 << uint(d.below(64))
	}
	return w
}

// P10.3, P10.4 and P5: memories by chance, with up to three words spoiled; and words by chance alone.
func TestLookByChance(t *testing.T) {
	met := map[string]int{}
	d := dice(3)
	for range 12000 {
		p := chancePaper(&d)
		if x, shaped := plainLook(p.c, p.words); !shaped {
			t.Fatalf("%+v: %x has no shape: %+v", p.c, p.words, x)
		}
		wantPlain(t, p, met)
		for range 1 + d.below(3) {
			p.words[d.below(len(p.words))] = oddWord(&d, p.c.Slots)
			wantPlain(t, p, met)
		}
		if d.below(4) == 0 {
			for addr := range p.words {
				p.words[addr] = oddWord(&d, p.c.Slots)
			}
			wantPlain(t, p, met)
		}
	}
	wantMet(t, met, "a shape", "no shape", "a free list", "no free list", "a cell", "a stack", "a queue", "a set", "a table")
}
