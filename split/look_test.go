package split_test

import (
	"cmp"
	"math"
	"math/bits"
	"slices"
	"testing"

	"reclaim/api"
	"reclaim/split"
)

// paper is words that are written by hand.
type paper struct {
	s     api.Split
	words []uint64
}

func paperOf(t *testing.T, s api.Split) *paper {
	t.Helper()
	words, e := split.Words(s)
	if e != api.OK {
		t.Fatalf("Words(%+v) = %d", s, e)
	}
	return &paper{s, words}
}

// put writes a word at an address.
func (p *paper) put(addr int, w uint64) *paper {
	p.words[addr] = w
	return p
}

// slot writes a slot of the list.
func (p *paper) slot(slot int, place uint64, data int, w uint64) *paper {
	return p.put(valueAt(p.s, slot), place).put(dataAt(p.s, slot), uint64(data)).put(linkAt(p.s, slot), w)
}

func (p *paper) want(t *testing.T, what string, pairs []api.Pair, buckets ...int) {
	t.Helper()
	if got, e := split.Look(p.s, p.words); !slices.Equal(got, pairs) || e != api.OK {
		t.Errorf("%s: Look = %v, %d, not %v", what, got, e, pairs)
	}
	if got, e := split.Buckets(p.s, p.words); !slices.Equal(got, buckets) || e != api.OK {
		t.Errorf("%s: Buckets = %v, %d, not %v", what, got, e, buckets)
	}
}

// wantErr asks for an error of all that reads words; Holds tells it whatever the calls are.
func (p *paper) wantErr(t *testing.T, what string, want api.Errno) {
	t.Helper()
	if got, e := split.Look(p.s, p.words); got != nil || e != want {
		t.Errorf("%s: Look = %v, %d, not %d", what, got, e, want)
	}
	if got, e := split.Buckets(p.s, p.words); got != nil || e != want {
		t.Errorf("%s: Buckets = %v, %d, not %d", what, got, e, want)
	}
	for _, calls := range [][]api.Call{nil, {{Op: api.OpGet, End: 2, Point: -1}}} {
		if so, e := split.Holds(p.s, api.Run{Words: p.words, Calls: calls}); so || e != want {
			t.Errorf("%s: Holds = %v, %d, not %d", what, so, e, want)
		}
	}
}

// fullPaper has a list of keys, one of them marked, and of buckets, one of them not named yet: by places the key
// 4, bucket 2, the key 2 (marked), bucket 1, the key 1, bucket 5, the key 3.
func fullPaper(t *testing.T) *paper {
	p := paperOf(t, pair(10, 6, 2))
	p.put(rootAt, link(4))
	p.slot(4, keyAt(4), 44, link(2))
	p.slot(2, bucketPlace(2), 7, link(7))
	p.slot(7, keyAt(2), 22, marked(0))
	p.slot(0, bucketPlace(1), 0, link(5))
	p.slot(5, keyAt(1), -5, link(9))
	p.slot(9, bucketPlace(5), 9, link(1))
	p.slot(1, keyAt(3), 33, 0)
	return p.put(bucketAt(1), link(0)).put(bucketAt(2), link(2)).put(countAt(p.s), 3).put(sizeAt(p.s), 4)
}

func fullPairs() []api.Pair {
	return []api.Pair{{Key: 1, Value: -5}, {Key: 3, Value: 33}, {Key: 4, Value: 44}}
}

// P23.7, P23.8: keys by rising keys, without those that are marked; buckets by rising numbers, whether they are
// named or not.
func TestLook(t *testing.T) {
	fullPaper(t).want(t, "full", fullPairs(), 1, 2, 5)
	for _, s := range edges() {
		paperOf(t, s).want(t, "new", nil)
	}
	p := fullPaper(t)
	p.put(linkAt(p.s, 1), marked(-1)).want(t, "the last one marked", []api.Pair{{Key: 1, Value: -5}, {Key: 4, Value: 44}}, 1, 2, 5)
	p.put(linkAt(p.s, 4), marked(2)).want(t, "the first one too", []api.Pair{{Key: 1, Value: -5}}, 1, 2, 5)
	p.put(linkAt(p.s, 5), marked(9)).want(t, "all of them", nil, 1, 2, 5)
	p.put(linkAt(p.s, 7), link(0)).want(t, "the other one not", []api.Pair{{Key: 2, Value: 22}}, 1, 2, 5)
	p = fullPaper(t)
	p.put(bucketAt(5), link(9)).want(t, "all buckets named", fullPairs(), 1, 2, 5)
	p.put(bucketAt(1), 0).put(bucketAt(2), 0).put(bucketAt(5), 0).want(t, "none named", fullPairs(), 1, 2, 5)
	p.put(rootAt, link(9)).want(t, "the last ones", []api.Pair{{Key: 3, Value: 33}}, 5)
	p.put(rootAt, link(1)).want(t, "the last one", []api.Pair{{Key: 3, Value: 33}})
	p.put(rootAt, 0).want(t, "none", nil)
}

// P23.7: values are any ints; the least and the greatest keys and slots.
func TestLookAtEdges(t *testing.T) {
	p := paperOf(t, splitOf(16, 1, 0, api.MaxSlots, api.MaxBuckets, 1))
	p.put(rootAt, link(1023)).slot(1023, 1, math.MinInt, link(0)).slot(0, bucketPlace(63)+2, 0, 0)
	p.wantErr(t, "a place of no bucket", api.ErrSplitShape)
	p.slot(0, bucketPlace(63), 0, link(1000)).slot(1000, 1<<31-1, math.MaxInt, 0)
	p.want(t, "edges", []api.Pair{{Key: 0, Value: math.MinInt}, {Key: api.MaxSplitKey, Value: math.MaxInt}}, 63)
	p.put(bucketAt(63), link(0)).put(sizeAt(p.s), 64).want(t, "named", []api.Pair{{Key: 0, Value: math.MinInt}, {Key: api.MaxSplitKey, Value: math.MaxInt}}, 63)
}

// P23.7: a list of all slots, of all buckets and of keys.
func TestLookAtGreatLists(t *testing.T) {
	p := paperOf(t, splitOf(1, 1, 0, api.MaxSlots, api.MaxBuckets, 1))
	places := []uint64{}
	var pairs []api.Pair
	var buckets []int
	for b := 1; b < api.MaxBuckets; b++ {
		places = append(places, bucketPlace(b))
		buckets = append(buckets, b)
	}
	for key := range api.MaxSlots - len(places) {
		places = append(places, keyAt(key))
		pairs = append(pairs, api.Pair{Key: key, Value: int(keyAt(key))})
	}
	slices.Sort(places)
	p.put(rootAt, link(7))
	for i, place := range places {
		slot := (i*5 + 7) % api.MaxSlots
		p.slot(slot, place, int(place), link((i*5+12)%api.MaxSlots))
		if i == len(places)-1 {
			p.put(linkAt(p.s, slot), 0)
		}
	}
	p.want(t, "all slots", pairs, buckets...)
	p.put(linkAt(p.s, (1023*5+7)%api.MaxSlots), link(7)).wantErr(t, "a great ring", api.ErrSplitShape)
}

// P23.7: the number of words is that of Words.
func TestLookAtOtherNumbersOfWords(t *testing.T) {
	p := fullPaper(t)
	for _, words := range [][]uint64{nil, {}, p.words[:len(p.words)-1], p.words[:len(p.words)-2], append(slices.Clone(p.words), 0), make([]uint64, 9000)} {
		(&paper{p.s, words}).wantErr(t, "other words", api.ErrRange)
	}
	p.put(sizeAt(p.s), 0).words = p.words[:len(p.words)-1]
	p.wantErr(t, "ErrRange comes ahead", api.ErrRange)
}

// P23.7: words with a single thing that no run could leave.
func TestLookAtOddShapes(t *testing.T) {
	for what, spoil := range map[string]func(p *paper){
		"a root with a mark":               func(p *paper) { p.put(rootAt, marked(4)) },
		"a root with a mark and no slot":   func(p *paper) { p.put(rootAt, marked(-1)) },
		"a root that is no link":           func(p *paper) { p.put(rootAt, 1<<33+5) },
		"a root of ones":                   func(p *paper) { p.put(rootAt, math.MaxUint64) },
		"a root's slot beyond":             func(p *paper) { p.put(rootAt, link(10)) },
		"a root's greatest slot":           func(p *paper) { p.put(rootAt, link(api.MaxIndex)) },
		"a root's slot that none may be":   func(p *paper) { p.put(rootAt, 1<<31) },
		"a slot beyond":                    func(p *paper) { p.put(linkAt(p.s, 1), link(10)) },
		"the greatest slot":                func(p *paper) { p.put(linkAt(p.s, 1), link(api.MaxIndex)) },
		"a slot beyond, behind a mark":     func(p *paper) { p.put(linkAt(p.s, 1), marked(10)) },
		"a link that is none":              func(p *paper) { p.put(linkAt(p.s, 1), 1<<33) },
		"a link that is none, at the head": func(p *paper) { p.put(linkAt(p.s, 4), 1<<34+3) },
		"a link of no slot":                func(p *paper) { p.put(linkAt(p.s, 1), 1<<31) },
		"a slot behind itself":             func(p *paper) { p.put(linkAt(p.s, 1), link(1)) },
		"the first slot twice":             func(p *paper) { p.put(linkAt(p.s, 1), link(4)) },
		"another slot twice":               func(p *paper) { p.put(linkAt(p.s, 5), link(0)) },
		"a slot twice, behind a mark":      func(p *paper) { p.put(linkAt(p.s, 1), marked(5)) },
		"a key twice":                      func(p *paper) { p.put(valueAt(p.s, 9), keyAt(1)) },
		"a marked key twice":               func(p *paper) { p.put(valueAt(p.s, 4), keyAt(2)) },
		"a bucket twice":                   func(p *paper) { p.put(valueAt(p.s, 5), bucketPlace(1)) },
		"a place that falls":               func(p *paper) { p.put(valueAt(p.s, 5), keyAt(4)) },
		"a marked one's place that falls":  func(p *paper) { p.put(valueAt(p.s, 7), keyAt(0)) },
		"a last place that falls":          func(p *paper) { p.put(valueAt(p.s, 1), keyAt(1)) },
		"an even place of nothing":         func(p *paper) { p.put(valueAt(p.s, 4), 2) },
		"an even place beside a bucket's":  func(p *paper) { p.put(valueAt(p.s, 2), bucketPlace(2)-2) },
		"the place of bucket 0":            func(p *paper) { p.put(valueAt(p.s, 4), 0) },
		"the place of bucket 6":            func(p *paper) { p.put(valueAt(p.s, 7), bucketPlace(6)).put(linkAt(p.s, 7), link(0)) },
		"the place of bucket 63":           func(p *paper) { p.put(valueAt(p.s, 1), bucketPlace(63)) },
		"a place below 0":                  func(p *paper) { p.put(valueAt(p.s, 4), math.MaxUint64) },
		"the least int":                    func(p *paper) { p.put(valueAt(p.s, 4), 1<<63) },
		"the least odd int":                func(p *paper) { p.put(valueAt(p.s, 4), 1<<63+1) },
		"a place beyond the last key's":    func(p *paper) { p.put(valueAt(p.s, 1), 1<<31+1) },
		"an even place beyond":             func(p *paper) { p.put(valueAt(p.s, 1), 1<<31) },
		"a great place":                    func(p *paper) { p.put(valueAt(p.s, 1), 1<<32+keyAt(3)) },
		"a mark at a bucket's slot":        func(p *paper) { p.put(linkAt(p.s, 0), marked(5)) },
		"a mark at another":                func(p *paper) { p.put(linkAt(p.s, 2), marked(7)) },
		"a mark at one that isn't named":   func(p *paper) { p.put(linkAt(p.s, 9), marked(1)) },
		"a bucket out of the list":         func(p *paper) { p.put(rootAt, link(5)) },
		"bucket 0 named":                   func(p *paper) { p.put(bucketAt(0), link(4)) },
		"bucket 0 named by a bucket":       func(p *paper) { p.put(bucketAt(0), link(0)) },
		"bucket 0 with a slot of place 0":  func(p *paper) { p.put(bucketAt(0), link(8)) },
		"bucket 0 with a mark":             func(p *paper) { p.put(bucketAt(0), marked(-1)) },
		"bucket 0 no link":                 func(p *paper) { p.put(bucketAt(0), 1<<33) },
		"another bucket's slot":            func(p *paper) { p.put(bucketAt(1), link(2)) },
		"another's, of one not named":      func(p *paper) { p.put(bucketAt(5), link(0)) },
		"a bucket that isn't in the list":  func(p *paper) { p.put(bucketAt(3), link(0)) },
		"a key's slot":                     func(p *paper) { p.put(bucketAt(1), link(5)) },
		"a slot of that place, not there": func(p *paper) {
			p.put(bucketAt(3), link(8)).put(valueAt(p.s, 8), bucketPlace(3))
		},
		"a slot of that place, not the one": func(p *paper) {
			p.put(bucketAt(1), link(8)).put(valueAt(p.s, 8), bucketPlace(1))
		},
		"a bucket's slot beyond":    func(p *paper) { p.put(bucketAt(4), link(10)) },
		"a bucket's greatest slot":  func(p *paper) { p.put(bucketAt(4), link(api.MaxIndex)) },
		"a bucket with a mark":      func(p *paper) { p.put(bucketAt(1), marked(0)) },
		"a bucket of none marked":   func(p *paper) { p.put(bucketAt(4), marked(-1)) },
		"a bucket that is no link":  func(p *paper) { p.put(bucketAt(4), 1<<33) },
		"the last bucket no link":   func(p *paper) { p.put(bucketAt(5), 1<<31) },
		"a bucket of ones":          func(p *paper) { p.put(bucketAt(5), math.MaxUint64) },
		"slot 0's bucket no link":   func(p *paper) { p.put(bucketAt(1), 1<<33) },
		"slot 0's with a bit more":  func(p *paper) { p.put(bucketAt(1), 1<<33+link(0)) },
		"a size of 0":               func(p *paper) { p.put(sizeAt(p.s), 0) },
		"a size of 3":               func(p *paper) { p.put(sizeAt(p.s), 3) },
		"a size of 5":               func(p *paper) { p.put(sizeAt(p.s), 5) },
		"a size of Buckets":         func(p *paper) { p.put(sizeAt(p.s), 6) },
		"a size of 8":               func(p *paper) { p.put(sizeAt(p.s), 8) },
		"a size of twice Buckets":   func(p *paper) { p.put(sizeAt(p.s), 12) },
		"a size of 64":              func(p *paper) { p.put(sizeAt(p.s), 64) },
		"a size of 2^32":            func(p *paper) { p.put(sizeAt(p.s), 1<<32) },
		"a size of 2^32 + 4":        func(p *paper) { p.put(sizeAt(p.s), 1<<32+4) },
		"a size of 2^63":            func(p *paper) { p.put(sizeAt(p.s), 1<<63) },
		"a size of ones":            func(p *paper) { p.put(sizeAt(p.s), math.MaxUint64) },
		"a size of the least int":   func(p *paper) { p.put(sizeAt(p.s), 1<<63+1) },
		"a size of what count says": func(p *paper) { p.put(sizeAt(p.s), p.words[countAt(p.s)]) },
	} {
		p := fullPaper(t)
		spoil(p)
		p.wantErr(t, what, api.ErrSplitShape)
	}
}

// P23.7: each size that may be, for each number of buckets.
func TestLookAtSizes(t *testing.T) {
	for _, buckets := range []int{1, 2, 3, 4, 5, 6, 7, 8, 31, 32, 33, 63, 64} {
		p := paperOf(t, pair(3, buckets, 1))
		for size := range uint64(2*buckets + 2) {
			p.put(sizeAt(p.s), size)
			if size > 0 && size <= uint64(buckets) && size&(size-1) == 0 {
				p.want(t, "a size that may be", nil)
			} else {
				p.wantErr(t, "a size that may not be", api.ErrSplitShape)
			}
		}
	}
}

// P23.7: only words that one comes to are looked at: all others may be anything, and so may the buckets' data,
// and count.
func TestLookAtNothingElse(t *testing.T) {
	for _, w := range []uint64{0, 7, marked(3), 1 << 31, 1 << 33, math.MaxUint64} {
		p := fullPaper(t)
		for addr := range p.words {
			if addr < rootAt || addr >= activeAt(p.s, 0) && addr < valueAt(p.s, 0) {
				p.put(addr, w)
			}
		}
		for _, slot := range []int{3, 6, 8} {
			p.slot(slot, w, int(w), w)
		}
		for _, slot := range []int{2, 7, 0, 9} {
			p.put(dataAt(p.s, slot), w)
		}
		p.put(countAt(p.s), w).want(t, "other words", fullPairs(), 1, 2, 5)
	}
}

// read is P23.7 and P23.8 by their words, in the simplest way.
func read(s api.Split, words []uint64) (pairs []api.Pair, buckets []int, e api.Errno) {
	isLink := func(w uint64) bool { return w < 1<<33 && w&(1<<32-1) < 1<<31 }
	at := map[int]int{} // of each place, its slot
	last := -1
	for addr := rootAt; ; {
		w := words[addr]
		if !isLink(w) || addr == rootAt && w >= markBit {
			return nil, nil, api.ErrSplitShape
		}
		slot := slotIn(w)
		if slot < 0 {
			break
		}
		if slot >= s.Config.Slots {
			return nil, nil, api.ErrSplitShape
		}
		addr = linkAt(s, slot)
		place := int(words[valueAt(s, slot)])
		if place <= last {
			return nil, nil, api.ErrSplitShape
		}
		last, at[place] = place, slot
		if place%2 != 0 && place < 1<<31 {
			if words[addr]&markBit == 0 {
				pairs = append(pairs, api.Pair{Key: int(bits.Reverse32(uint32(place/2)) >> 2), Value: int(words[dataAt(s, slot)])})
			}
			continue
		}
		ofBucket := false
		for b := 1; b < s.Config.Buckets; b++ {
			ofBucket = ofBucket || place == int(bucketPlace(b))
		}
		if !ofBucket || words[addr]&markBit != 0 {
			return nil, nil, api.ErrSplitShape
		}
	}
	for b := range s.Config.Buckets {
		slot, there := at[int(bucketPlace(b))]
		if b > 0 && there {
			buckets = append(buckets, b)
		}
		if w := words[bucketAt(b)]; w != 0 && (b == 0 || !there || w != link(slot)) {
			return nil, nil, api.ErrSplitShape
		}
	}
	if size := words[sizeAt(s)]; !slices.Contains([]uint64{1, 2, 4, 8, 16, 32, 64}, size) || size > uint64(s.Config.Buckets) {
		return nil, nil, api.ErrSplitShape
	}
	slices.SortFunc(pairs, func(a, b api.Pair) int { return cmp.Compare(a.Key, b.Key) })
	return pairs, buckets, api.OK
}

// wantRead asks that words are read as the simplest reading does.
func wantRead(t *testing.T, s api.Split, words []uint64) api.Errno {
	t.Helper()
	pairs, buckets, e := read(s, words)
	if got, f := split.Look(s, words); !slices.Equal(got, pairs) || f != e {
		t.Fatalf("Look(%v) = %v, %d, not %v, %d", words, got, f, pairs, e)
	}
	if got, f := split.Buckets(s, words); !slices.Equal(got, buckets) || f != e {
		t.Fatalf("Buckets(%v) = %v, %d, not %v, %d", words, got, f, buckets, e)
	}
	return e
}

// changeWord makes a word that matters another one.
func changeWord(c *dice, s api.Split, words []uint64) {
	slot := c.below(s.Config.Slots)
	addr := []int{rootAt, bucketAt(c.below(s.Config.Buckets)), linkAt(s, slot), valueAt(s, slot), sizeAt(s), c.below(len(words))}[c.below(6)]
	switch c.below(7) {
	case 0:
		words[addr] = link(c.below(s.Config.Slots+2) - 1)
	case 1:
		words[addr] ^= markBit
	case 2:
		words[addr] = words[c.below(len(words))]
	case 3:
		words[addr] = bucketPlace(c.below(s.Config.Buckets + 2))
	case 4:
		words[addr] = keyAt(c.below(12))
	case 5:
		words[addr] ^= 1 << c.below(64)
	case 6:
		words[addr] = uint64(c.below(9))
	}
}

// P23.7, P23.8: true words, and true ones of which some were made others, as the words of the chapter say.
func TestLookAtChangedWords(t *testing.T) {
	c := dice(55)
	met := map[api.Errno]int{}
	eachChance(t, 250, func(s api.Split, moves []api.Move) {
		r := playOf(t, s, moves...)
		if e := wantRead(t, s, r.Words); e != api.OK {
			t.Fatalf("of a run: %d", e)
		}
		for range 60 {
			words := slices.Clone(r.Words)
			for range 1 + c.below(3) {
				changeWord(&c, s, words)
			}
			met[wantRead(t, s, words)]++
		}
	})
	if met[api.OK] < 2000 || met[api.ErrSplitShape] < 2000 {
		t.Errorf("met %v", met)
	}
}
