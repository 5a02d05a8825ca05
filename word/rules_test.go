package word_test

import (
	"math"
	"math/bits"
	"slices"
	"testing"

	"reclaim/api"
	"reclaim/word"
)

// words are words of every kind and of none: edges, single bits, bits around them, and words
// spread over all 64 bits.
func words() []uint64 {
	var list []uint64
	for bit := range 64 {
		w := uint64(1) << bit
		list = append(list, w-1, w, w+1, w|1<<32, w|3<<32, ^w)
	}
	spread := uint64(1)
	for range 500 {
		spread = bits.RotateLeft64(spread*6364136223846793005+1442695040888963407, 23)
		list = append(list, spread, spread&(1<<33-1), spread&(1<<33-1)&^(1<<31), spread&^(1<<31), spread%3)
	}
	return list
}

func ints() []int {
	list := append(slots(), noSlots()...)
	for _, w := range words() {
		list = append(list, int(w))
	}
	return list
}

func tags() []uint32 {
	return []uint32{0, 1, 2, 3, 7, 1 << 16, 1 << 31, math.MaxUint32 - 1, math.MaxUint32}
}

// texts are all texts of at most four signs out of those that names and words' texts are made
// of, and some others.
func texts() []string {
	list := []string{""}
	from := 0
	for range 4 {
		till := len(list)
		for _, s := range list[from:till] {
			for _, sign := range []string{"0", "1", "9", "-", "*", ":", ".", " ", "+"} {
				list = append(list, s+sign)
			}
		}
		from = till
	}
	for _, x := range names() {
		for _, s := range list[:91] {
			list = append(list, x.s+s)
		}
	}
	return list
}

// P1.10.
func TestUnlinkOfLink(t *testing.T) {
	for _, i := range ints() {
		for _, mark := range []bool{false, true} {
			w, e := word.Link(i, mark)
			if e != api.OK {
				continue
			}
			if j, m, e := word.Unlink(w); j != i || m != mark || e != api.OK {
				t.Errorf("Unlink(Link(%d, %v)) = %d, %v, %d", i, mark, j, m, e)
			}
		}
	}
	for _, w := range words() {
		i, mark, e := word.Unlink(w)
		if e != api.OK {
			continue
		}
		if v, e := word.Link(i, mark); v != w || e != api.OK {
			t.Errorf("Link(Unlink(%d)) = %d, %d", w, v, e)
		}
	}
}

// P1.10.
func TestUnheadOfHead(t *testing.T) {
	for _, i := range ints() {
		for _, tag := range tags() {
			w, e := word.Head(tag, i)
			if e != api.OK {
				continue
			}
			if g, j, e := word.Unhead(w); g != tag || j != i || e != api.OK {
				t.Errorf("Unhead(Head(%d, %d)) = %d, %d, %d", tag, i, g, j, e)
			}
		}
	}
	for _, w := range words() {
		tag, i, e := word.Unhead(w)
		if e != api.OK {
			continue
		}
		if v, e := word.Head(tag, i); v != w || e != api.OK {
			t.Errorf("Head(Unhead(%d)) = %d, %d", w, v, e)
		}
	}
}

// P1.10.
func TestValueOfNumber(t *testing.T) {
	for _, v := range ints() {
		if u := word.Value(word.Number(v)); u != v {
			t.Errorf("Value(Number(%d)) = %d", v, u)
		}
	}
	for _, w := range words() {
		if v := word.Number(word.Value(w)); v != w {
			t.Errorf("Number(Value(%d)) = %d", w, v)
		}
	}
}

// P1.10.
func TestParseOfShow(t *testing.T) {
	for r := api.RegionFree; r <= api.RegionLink; r++ {
		for _, w := range words() {
			s, e := word.Show(r, w)
			if e != api.OK {
				continue
			}
			if v, e := word.Parse(r, s); v != w || e != api.OK {
				t.Errorf("Parse(%d, Show(%d)) = %d, %d", r, w, v, e)
			}
		}
		for _, s := range texts() {
			w, e := word.Parse(r, s)
			if e != api.OK {
				continue
			}
			if text, e := word.Show(r, w); text != s || e != api.OK {
				t.Errorf("Show(%d, Parse(%q)) = %q, %d", r, s, text, e)
			}
		}
	}
}

// P1.10.
func TestReadOfName(t *testing.T) {
	for r := api.RegionFree; r <= api.RegionLink; r++ {
		for _, i := range slots() {
			for _, k := range slots() {
				p := api.Place{Region: r, I: i, K: k}
				s, e := word.Name(p)
				if e != api.OK {
					continue
				}
				if q, e := word.Read(s); q != p || e != api.OK {
					t.Errorf("Read(Name(%v)) = %v, %d", p, q, e)
				}
			}
		}
	}
	for _, s := range texts() {
		p, e := word.Read(s)
		if e != api.OK {
			continue
		}
		if name, e := word.Name(p); name != s || e != api.OK {
			t.Errorf("Name(Read(%q)) = %q, %d", s, name, e)
		}
	}
}

// P1.10: a place's name names it in every memory that has it, and no two places share one.
func TestNamesOfAMemory(t *testing.T) {
	seen := map[string]api.Place{}
	for _, p := range placesOf(greatest()) {
		s, e := word.Name(p)
		if e != api.OK {
			t.Errorf("Name(%v): %d", p, e)
		}
		if q, ok := seen[s]; ok {
			t.Errorf("%v and %v are both called %q", p, q, s)
		}
		seen[s] = p
		if q, e := word.Read(s); q != p || e != api.OK {
			t.Errorf("Read(%q) = %v, %d, not %v", s, q, e, p)
		}
	}
}

// answers are all that the package answers to one row of arguments.
type answers struct {
	check, sizeErr, addrErr, atErr, nameErr, readErr, showErr, parseErr, firstErr api.Errno
	linkErr, unlinkErr, headErr, unheadErr                                        api.Errno
	link, head, number, parse                                                     uint64
	unlink, unhead, value, size, addr                                             int
	mark                                                                          bool
	tag                                                                           uint32
	at, read                                                                      api.Place
	name, show                                                                    string
	first                                                                         [64]uint64
	firstLen                                                                      int
}

func ask(c api.Config, p api.Place, n int, w uint64, s string) answers {
	var a answers
	a.check = word.Check(c)
	a.link, a.linkErr = word.Link(n, w&1 == 1)
	a.unlink, a.mark, a.unlinkErr = word.Unlink(w)
	a.head, a.headErr = word.Head(uint32(w), n)
	a.tag, a.unhead, a.unheadErr = word.Unhead(w)
	a.number = word.Number(n)
	a.value = word.Value(w)
	a.size, a.sizeErr = word.Size(c)
	a.addr, a.addrErr = word.Addr(c, p)
	a.at, a.atErr = word.At(c, n)
	a.name, a.nameErr = word.Name(p)
	a.read, a.readErr = word.Read(s)
	a.show, a.showErr = word.Show(p.Region, w)
	a.parse, a.parseErr = word.Parse(p.Region, s)
	first, e := word.First(c, n)
	a.firstErr, a.firstLen = e, len(first)
	copy(a.first[:], first)
	return a
}

// P5 and P6: whatever a call is given it ends without a panic, and answers the same each time,
// whatever was asked in between.
func TestEveryCallEndsAndAnswersTheSame(t *testing.T) {
	configs := append(goodConfigs(), badConfigs()...)
	configs = append(configs, api.Config{Threads: math.MinInt, Records: math.MaxInt, Hazards: math.MaxInt, Retire: math.MinInt, Cache: math.MinInt, Slots: math.MaxInt, Buckets: math.MaxInt})
	regions := append(noRegions(), plainRegions()...)
	regions = append(regions, api.RegionFree, api.RegionActive, api.RegionValue, api.RegionData, api.RegionLink)
	numbers, raw := ints(), words()
	written := append(texts()[:2000], wrongTexts()...)
	row := func(i int) answers {
		p := api.Place{Region: regions[i%len(regions)], I: numbers[i*7%len(numbers)], K: numbers[i*11%len(numbers)]}
		if i%3 == 0 {
			p.I, p.K = i%70, i%5
		}
		return ask(configs[i%len(configs)], p, numbers[i%len(numbers)], raw[i%len(raw)], written[i%len(written)])
	}
	const count = 20000
	once := make([]answers, count)
	for i := range count {
		once[i] = row(i)
	}
	for i := count - 1; i >= 0; i-- {
		if row(i) != once[i] {
			t.Fatalf("row %d: answered %+v, and then another time %+v", i, once[i], row(i))
		}
	}
}

// P5: the same over raw texts of any bytes.
func FuzzTexts(f *testing.F) {
	for _, x := range names() {
		f.Add(int(x.p.Region), x.s)
	}
	for i, s := range slices.Concat(wrongTexts(), []string{"7*", "-*", "3:7", "0:-", "-1"}) {
		f.Add(i%15, s)
	}
	f.Fuzz(func(t *testing.T, region int, s string) {
		if p, e := word.Read(s); e == api.OK {
			if name, e := word.Name(p); name != s || e != api.OK {
				t.Errorf("Name(Read(%q)) = %q, %d", s, name, e)
			}
		} else if e != api.ErrName || p != (api.Place{}) {
			t.Errorf("Read(%q) = %v, %d", s, p, e)
		}
		r := api.Region(region)
		if w, e := word.Parse(r, s); e == api.OK {
			if text, e := word.Show(r, w); text != s || e != api.OK {
				t.Errorf("Show(%d, Parse(%q)) = %q, %d", r, s, text, e)
			}
		} else if w != 0 {
			t.Errorf("Parse(%d, %q) = %d, %d", r, s, w, e)
		}
	})
}
