package tso_test

import (
	"slices"
	"testing"

	"reclaim/api"
	"reclaim/tso"
)

// dice are numbers that look like chance and are the same each time.
type dice uint64

func newDice(seed uint64) *dice {
	d := dice(seed)
	return &d
}

func (d *dice) below(n int) int {
	*d = *d*6364136223846793005 + 1442695040888963407
	return int(uint64(*d) >> 33 % uint64(n))
}

func (d *dice) often(n int) bool { return d.below(n) == 0 }

// value is mostly one of a few, so that swaps hit and skips are taken.
func (d *dice) value() int {
	return []int{0, 0, 0, 1, 1, 1, 2, -1, least, greatest}[d.below(10)]
}

// instr has any numbers in what its kind doesn't look at.
func (d *dice) instr(words int) api.Instr {
	in := []api.Instr{load(d.below(4), d.below(words)), store(d.below(words), d.value()), storeReg(d.below(words), d.below(4)),
		swap(d.below(4), d.below(words), d.value(), d.value()), fence(), set(d.below(4), d.value()), add(d.below(4), d.value()),
		skip(d.below(4), d.below(4), d.value()), load(d.below(2), d.below(words)), store(d.below(words), d.value())}[d.below(10)]
	if d.often(4) {
		all := unlike(in)
		return all[d.below(len(all))]
	}
	return in
}

// litmus has at most so many threads, words and instructions of a thread.
func (d *dice) litmus(threads, words, most int) api.Litmus {
	l := api.Litmus{Words: make([]int, 1+d.below(words)), Threads: make(codes, 1+d.below(threads))}
	for i := range l.Words {
		l.Words[i] = d.value()
	}
	for i := range l.Threads {
		for range d.below(most + 1) {
			l.Threads[i] = append(l.Threads[i], d.instr(len(l.Words)))
		}
	}
	return l
}

// racy has threads that store and load alone, with few words between them.
func (d *dice) racy(threads, words, most int) api.Litmus {
	l := litmus(make([]int, words))
	for i := range threads {
		var all []api.Instr
		for j := range most {
			if d.often(2) {
				all = append(all, load(j%4, d.below(words)))
			} else {
				all = append(all, store(d.below(words), 10*i+j+1))
			}
		}
		l.Threads = append(l.Threads, all)
	}
	return l
}

// small is a program with few states: a few threads or long ones, not both.
func (d *dice) small() api.Litmus {
	switch d.below(7) {
	case 0:
		return d.litmus(1, 6, 10)
	case 1:
		return d.litmus(2, 3, 5)
	case 2:
		return d.litmus(3, 3, 3)
	case 3:
		return d.litmus(4, 2, 2)
	case 4:
		return d.racy(2, 2, 5)
	case 5:
		return d.racy(3, 2, 3)
	}
	return d.racy(4, 2, 2)
}

// turns are of threads that there are, mostly.
func (d *dice) turns(l api.Litmus, n int) []api.Turn {
	got := make(turns, n)
	for i := range got {
		got[i] = api.Turn{Thread: d.below(len(l.Threads)), Out: d.often(3), Addr: d.below(len(l.Words))}
		if d.often(20) {
			got[i] = api.Turn{Thread: d.below(8) - 2, Out: d.often(2), Addr: d.below(10) - 2}
		}
	}
	return got
}

// P19.1, P19.2, P19.5: runs by chance are those of the second machine.
func TestRunsByChance(t *testing.T) {
	d := newDice(1)
	waited, ended := 0, 0
	for range 6000 {
		l := d.litmus(4, 6, 10)
		for _, o := range orders() {
			list := d.turns(l, d.below(120))
			want, count := plain{l, o}.run(list)
			wantRun(t, l, o, list, want, count)
			if len(slices.Concat(want.Buffers...)) > 2 {
				waited++
			}
			if (plain{l, o}).isFinal(want) {
				ended++
			}
		}
	}
	if waited < 500 || ended < 500 {
		t.Errorf("only %d with stores that wait, %d that ended", waited, ended)
	}
}

// state is any state, mostly one of the program's.
func (d *dice) state(l api.Litmus, o api.Order) api.LitmusState {
	n := len(l.Threads)
	s := api.LitmusState{Words: make([]int, len(l.Words)), Regs: make([]regs, n), Places: make([]int, n), Buffers: make([][]api.Pending, n)}
	for i := range s.Words {
		s.Words[i] = d.value()
	}
	for i, c := range l.Threads {
		s.Regs[i] = regs{d.value(), d.value(), d.value(), d.value()}
		s.Places[i] = d.below(len(c) + 1)
		for range d.below(11) * d.below(2) * min(int(o)-1, 1) {
			s.Buffers[i] = append(s.Buffers[i], api.Pending{Addr: d.below(len(l.Words)), Value: d.value()})
		}
	}
	if d.often(4) {
		d.spoil(&s)
	}
	return s
}

// spoil changes one thing, so that the state may be none.
func (d *dice) spoil(s *api.LitmusState) {
	i := d.below(len(s.Places))
	switch d.below(6) {
	case 0:
		s.Words = make([]int, d.below(8))
	case 1:
		s.Regs = make([]regs, d.below(6))
	case 2:
		s.Places[i] = d.below(20) - 5
	case 3:
		s.Buffers = make([][]api.Pending, d.below(6))
	case 4:
		s.Buffers[i] = append(s.Buffers[i], api.Pending{Addr: d.below(9) - 2})
	case 5:
		s.Places = append(s.Places, 0)
	}
}

// P19.4: turns of any states are those of the second machine; states that are none are refused.
func TestNextsByChance(t *testing.T) {
	d := newDice(2)
	met := map[api.Errno]int{}
	for range 20000 {
		l := d.litmus(4, 6, 10)
		o := orders()[d.below(3)]
		s := d.state(l, o)
		turn := d.turns(l, 1)[0]
		p := plain{l, o}
		if !p.isOnePlain(s) {
			wantRange(t, l, o, s)
			met[api.ErrRange]++
			continue
		}
		want, happens := p.next(s, turn)
		wantNext(t, l, o, s, turn, want, happens)
		met[api.OK]++
	}
	if met[api.OK] < 10000 || met[api.ErrRange] < 1000 {
		t.Errorf("only %v", met)
	}
}

// P19.3: programs of any numbers are those that the chapter's words let be.
func TestChecksByChance(t *testing.T) {
	d := newDice(3)
	number := func() int { return []int{0, 0, 0, 1, 1, 2, 3, 4, 5, 9, 10, 11, -1, -2, least, greatest}[d.below(16)] }
	met := map[bool]int{}
	for range 40000 {
		l := api.Litmus{Words: make([]int, d.below(9)), Threads: make(codes, d.below(6))}
		for i := range l.Threads {
			for range d.below(2) * d.below(3) {
				l.Threads[i] = append(l.Threads[i], api.Instr{Kind: api.InstrKind(d.below(9)), Reg: number(), Addr: number(), Value: number(), From: number(), Old: number(), Count: number()})
			}
		}
		want := api.OK
		if !mayPlain(l) {
			want = api.ErrLitmus
		}
		met[want == api.OK]++
		wantCheck(t, l, want)
	}
	if met[true] < 5000 || met[false] < 5000 {
		t.Errorf("only %v", met)
	}
}

// P19.6, P19.7: ends and ways of many small programs are those of the second machine's search.
func TestSearchesByChance(t *testing.T) {
	d := newDice(4)
	met, many := 0, 0
	for range 350 {
		l := d.small()
		for _, o := range orders() {
			p := plain{l, o}
			g := p.graph(700)
			if len(g.states) > 700 {
				continue
			}
			want := p.finals(g)
			wantFinals(t, l, o, want...)
			many = max(many, len(want))
			for _, f := range d.some(want, 4) {
				way, _ := p.reach(g, f)
				if got := reach(t, l, o, f); !slices.Equal(got, way) {
					t.Errorf("order %d, %s to %+v:\ngot  %+v\nwant %+v", o, code(l), f, got, way)
				}
				met++
			}
			f := d.unlikely(want)
			if way, ok := p.reach(g, f); !ok {
				wantNoWay(t, l, o, f)
			} else if got := reach(t, l, o, f); !slices.Equal(got, way) {
				t.Errorf("order %d, %s to %+v: %+v", o, code(l), f, got)
			}
		}
	}
	if met < 1500 || many < 30 {
		t.Errorf("only %d ways, %d ends at most", met, many)
	}
}

// some are a few of many.
func (d *dice) some(all []api.Final, n int) []api.Final {
	if len(all) <= n {
		return all
	}
	from := d.below(len(all) - n)
	return all[from : from+n]
}

// unlikely is one of them with a number changed.
func (d *dice) unlikely(all []api.Final) api.Final {
	f := cloneFinal(all[d.below(len(all))])
	if d.often(2) {
		f.Words[d.below(len(f.Words))] = d.value()
	} else {
		f.Regs[d.below(len(f.Regs))][d.below(4)] = d.value()
	}
	return f
}

// P19.8: Fenced of many programs.
func TestFencedByChance(t *testing.T) {
	d := newDice(5)
	met := map[api.Errno]int{}
	for range 20000 {
		l := d.litmus(4, 3, 2+d.below(9))
		want, ok := fencedPlain(l)
		got, e := tso.Fenced(l)
		if ok != (e == api.OK) || !ok && e != api.ErrLong || !sameLitmus(got, want) {
			t.Errorf("%s:\ngot  %s, %v\nwant %s", code(l), code(got), e, code(want))
		}
		met[e]++
	}
	if met[api.OK] < 5000 || met[api.ErrLong] < 1000 {
		t.Errorf("only %v", met)
	}
}
