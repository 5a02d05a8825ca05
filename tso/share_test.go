package tso_test

import (
	"fmt"
	"slices"
	"sync"
	"testing"

	"reclaim/api"
	"reclaim/tso"
)

// within is a list in the midst of a greater one, with edges around it.
func within[T any](values []T, edge T) []T {
	return append(append([]T{edge}, values...), edge, edge, edge, edge)
}

// inner is the list within, with all behind it as its spare room.
func inner[T any](around []T) []T { return around[1 : len(around)-4] }

// handed is arguments each of whose lists stands within a greater one.
type handed struct {
	l     api.Litmus
	s     api.LitmusState
	f     api.Final
	turns []api.Turn
}

func around(h handed) handed {
	var got handed
	got.l = api.Litmus{Words: within(h.l.Words, 71), Threads: within(aroundEach(h.l.Threads, set(2, 73)), times(8, set(1, 72)))}
	got.s = api.LitmusState{Words: within(h.s.Words, 74), Regs: within(h.s.Regs, regs{75}), Places: within(h.s.Places, 76)}
	got.s.Buffers = within(aroundEach(h.s.Buffers, api.Pending{Addr: 77, Value: 78}), slices.Repeat(waiting(1, 1), 9))
	got.f = api.Final{Words: within(h.f.Words, 79), Regs: within(h.f.Regs, regs{80})}
	got.turns = within(h.turns, do(1))
	return got
}

func aroundEach[T any](lists [][]T, edge T) [][]T {
	var got [][]T
	for _, l := range lists {
		got = append(got, within(l, edge))
	}
	return got
}

func innerOf(h handed) handed {
	return handed{api.Litmus{Words: inner(h.l.Words), Threads: innerEach(h.l.Threads)},
		api.LitmusState{Words: inner(h.s.Words), Regs: inner(h.s.Regs), Places: inner(h.s.Places), Buffers: innerEach(h.s.Buffers)},
		api.Final{Words: inner(h.f.Words), Regs: inner(h.f.Regs)}, inner(h.turns)}
}

// innerEach is new at the top, with the lists below as they stand. (TestChangesNoTops looks at tops.)
func innerEach[T any](lists [][]T) [][]T {
	got := slices.Clone(lists)
	for i := 1; i < len(got)-4; i++ {
		got[i] = inner(got[i])
	}
	return inner(got)
}

func cloneHanded(h handed) handed {
	return handed{cloneLitmus(h.l), cloneState(h.s), cloneFinal(h.f), slices.Clone(h.turns)}
}

func sameHanded(a, b handed) bool {
	return sameLitmus(a.l, b.l) && sameState(a.s, b.s) && sameFinal(a.f, b.f) && slices.Equal(a.turns, b.turns)
}

// all is what every call answers, as one text.
func all(h handed, o api.Order, turn api.Turn) string {
	check := tso.Check(h.l)
	first, e0 := tso.Begin(h.l)
	next, happened, e1 := tso.Next(h.l, o, h.s, turn)
	run, n, e2 := tso.Run(h.l, o, h.turns)
	ends, e3 := tso.Finals(h.l, o)
	way, e4 := tso.Reach(h.l, o, h.f)
	fenced, e5 := tso.Fenced(h.l)
	return fmt.Sprint(check, first, e0, next, happened, e1, run, n, e2, ends, e3, way, e4, fenced, e5)
}

// handed is arguments by chance, mostly such that all is well.
func (d *dice) handed(o api.Order) handed {
	l := d.small()
	h := handed{l: l, s: d.state(l, o), turns: d.turns(l, d.below(30))}
	if ends, e := tso.Finals(l, o); e == api.OK {
		h.f = ends[d.below(len(ends))]
	}
	if d.often(8) {
		h.l = badPrograms()[d.below(len(badPrograms()))]
	}
	return h
}

// P6: what is handed in stays as it was, its spare room too, and is not kept.
func TestChangesNothing(t *testing.T) {
	d := newDice(51)
	for range 150 {
		o := api.Order(d.below(5))
		h := around(d.handed(max(min(o, 3), 1)))
		was := cloneHanded(h)
		in := innerOf(h)
		tops := cloneHanded(in)
		turn := do(d.below(3))
		first := all(in, o, turn)
		if !sameHanded(h, was) || !sameHanded(in, tops) {
			t.Fatalf("%+v has become %+v", was, h)
		}
		if again := all(innerOf(was), o, turn); again != first {
			t.Fatalf("%s, then %s", first, again)
		}
	}
}

// P6: the lists of lists stay as they were, in their spare room too.
func TestChangesNoTops(t *testing.T) {
	l := classic(t, "protect")
	threads := append(slices.Clone(l.Threads), times(1, set(1, 1)), times(2, set(1, 2)))
	s := begin(t, l)
	buffers := append(slices.Clone(s.Buffers), waiting(1, 1), waiting(2, 2))
	l.Threads, s.Buffers = threads[:2], buffers[:2]
	for _, o := range orders() {
		all(handed{l: l, s: s, f: one(1, 1), turns: turns{do(0), out(0)}}, o, do(1))
	}
	if !slices.Equal(threads[2], times(1, set(1, 1))) || !slices.Equal(threads[3], times(2, set(1, 2))) || len(buffers[2]) != 1 || len(buffers[3]) != 1 {
		t.Errorf("%+v, %+v", threads, buffers)
	}
}

// part is a list of an answer: how to write over all of it, its spare room too, and whether it is as it was.
type part struct {
	name  string
	write func()
	same  func() bool
}

func partOf[T comparable](name string, list []T, with T) part {
	whole := list[:cap(list)]
	was := slices.Clone(whole)
	return part{name, func() {
		for i := range whole {
			whole[i] = with
		}
	}, func() bool { return slices.Equal(whole, was) }}
}

// topOf is a list of lists.
func topOf[T any](name string, list [][]T) part {
	whole := list[:cap(list)]
	var was []int
	for _, l := range whole {
		was = append(was, len(l))
	}
	return part{name, func() {
		for i := range whole {
			whole[i] = make([]T, 99)
		}
	}, func() bool {
		for i, l := range whole {
			if len(l) != was[i] {
				return false
			}
		}
		return true
	}}
}

func partsOfLitmus(l api.Litmus) []part {
	got := []part{partOf("words", l.Words, 81), topOf("threads", l.Threads)}
	for i, c := range l.Threads {
		got = append(got, partOf(fmt.Sprint("thread ", i), c, set(3, 82)))
	}
	return got
}

func partsOfState(s api.LitmusState) []part {
	got := []part{partOf("words", s.Words, 83), partOf("regs", s.Regs, regs{84}), partOf("places", s.Places, 85), topOf("buffers", s.Buffers)}
	for i, b := range s.Buffers {
		got = append(got, partOf(fmt.Sprint("buffer ", i), b, api.Pending{Addr: 86}))
	}
	return got
}

func partsOfFinals(all []api.Final) []part {
	var got []part
	for i, f := range all {
		got = append(got, partOf(fmt.Sprint("words ", i), f.Words, 87), partOf(fmt.Sprint("regs ", i), f.Regs, regs{88}))
	}
	return got
}

// wantApart writes over the lists one by one, and looks at those to come.
func wantApart(t *testing.T, what string, all []part) {
	t.Helper()
	for i, p := range all {
		p.write()
		for _, other := range all[i+1:] {
			if !other.same() {
				t.Fatalf("%s: %s is written over with %s", what, other.name, p.name)
			}
		}
	}
}

// P6: the lists of what is answered share no memory with each other, with what was handed in, or with another answer.
func TestAnswersShareNothing(t *testing.T) {
	d := newDice(52)
	for range 200 {
		o := orders()[d.below(3)]
		l := d.litmus(3, 3, 4)
		list := d.turns(l, 20)
		s, _, _ := tso.Run(l, o, list)
		in := append(append(partsOfLitmus(l), partsOfState(s)...), partOf("turns", list, do(9)))
		first, _ := tso.Begin(l)
		run, _, _ := tso.Run(l, o, list)
		still, _, _ := tso.Next(l, o, s, do(-1))
		next, _, _ := tso.Next(l, o, s, do(0))
		gone, _, _ := tso.Next(l, o, s, out(0))
		ends, _ := tso.Finals(l, o)
		f := cloneFinal(ends[0])
		way, _ := tso.Reach(l, o, f)
		fenced, _ := tso.Fenced(l)
		got := slices.Concat(partsOfState(first), partsOfState(run), partsOfState(still), partsOfState(next), partsOfState(gone),
			partsOfFinals(ends), []part{partOf("way", way, do(8))}, partsOfLitmus(fenced))
		wantApart(t, code(l), append(append(slices.Clone(got), in...), partsOfFinals([]api.Final{f})...))
	}
}

// P6: names and classics are new each time.
func TestClassicsShareNothing(t *testing.T) {
	want := fmt.Sprintf("%+v", table())
	for _, name := range tso.Names() {
		a, b := classic(t, name), classic(t, name)
		wantApart(t, name, append(partsOfLitmus(a), partsOfLitmus(b)...))
	}
	names := tso.Names()
	wantApart(t, "names", []part{partOf("one", names, "x"), partOf("two", tso.Names(), "y")})
	var got []known
	for _, name := range tso.Names() {
		got = append(got, known{name, classic(t, name)})
	}
	if fmt.Sprintf("%+v", got) != want {
		t.Errorf("%+v", got)
	}
}

// P6: the same is answered whatever was asked between, and by calls that are made at the same time.
func TestSameAgain(t *testing.T) {
	d := newDice(53)
	type question struct {
		h    handed
		o    api.Order
		turn api.Turn
		want string
	}
	var asked []question
	for range 60 {
		o := orders()[d.below(3)]
		q := question{h: d.handed(o), o: o, turn: do(d.below(3))}
		q.want = all(q.h, q.o, q.turn)
		asked = append(asked, q)
	}
	var done sync.WaitGroup
	for k := range 4 {
		done.Go(func() {
			for i := range asked {
				q := asked[(i*7+k*13)%len(asked)]
				if got := all(q.h, q.o, q.turn); got != q.want {
					t.Errorf("%s, then %s", q.want, got)
				}
			}
		})
	}
	done.Wait()
}

// P7: nil and empty lists are the same.
func TestNilAndEmpty(t *testing.T) {
	a := litmus([]int{5}, nil, []api.Instr{store(0, 1)})
	b := litmus([]int{5}, []api.Instr{}, []api.Instr{store(0, 1)})
	sa, sb := begin(t, a), begin(t, b)
	sa.Buffers, sb.Buffers = [][]api.Pending{nil, nil}, [][]api.Pending{{}, make(waits, 0, 5)}
	f := api.Final{Words: []int{1}, Regs: []regs{{}, {}}}
	for _, o := range orders() {
		one, two := all(handed{a, sa, f, nil}, o, do(1)), all(handed{b, sb, f, turns{}}, o, do(1))
		if one != two {
			t.Errorf("%s, then %s", one, two)
		}
		if _, e := tso.Reach(a, o, f); e != api.OK {
			t.Errorf("order %d: %v", o, e)
		}
		none, some := all(handed{}, o, do(0)), all(handed{l: api.Litmus{Words: []int{}, Threads: codes{}}, s: api.LitmusState{Words: []int{}, Regs: []regs{}, Places: []int{}, Buffers: [][]api.Pending{}}, f: api.Final{Words: []int{}, Regs: []regs{}}}, o, do(0))
		if none != some {
			t.Errorf("%s, then %s", none, some)
		}
	}
}

// P5: every call ends without a panic, whatever it is given.
func TestAnyNumbers(t *testing.T) {
	d := newDice(54)
	number := func() int {
		return []int{0, 1, 2, 3, 4, 5, 6, 9, 10, 11, -1, -2, least, greatest, 1 << 32, 1 << 62}[d.below(16)]
	}
	met := map[api.Errno]int{}
	for range 20000 {
		var h handed
		for range d.below(8) {
			h.l.Words = append(h.l.Words, number())
			h.f.Words = append(h.f.Words, number())
		}
		for range d.below(6) {
			var c []api.Instr
			for range d.below(2) * d.below(4) {
				c = append(c, api.Instr{Kind: api.InstrKind(d.below(10) - 1), Reg: number(), Addr: number(), Value: number(), From: number(), Old: number(), Count: number()})
			}
			h.l.Threads = append(h.l.Threads, c)
			h.f.Regs = append(h.f.Regs, regs{number(), number()})
			h.s.Places = append(h.s.Places, number())
			h.s.Buffers = append(h.s.Buffers, slices.Repeat(waits{{Addr: number(), Value: number()}}, d.below(13)*d.below(2)))
		}
		h.s.Words, h.s.Regs = h.f.Words, h.f.Regs
		h.turns = slices.Repeat(turns{{Thread: number(), Out: d.often(2), Addr: number()}}, d.below(5))
		if d.often(3) {
			h.s, _ = tso.Begin(h.l)
		}
		o := api.Order(number())
		all(h, o, api.Turn{Thread: number(), Out: d.often(2), Addr: number()})
		_, _, e := tso.Next(h.l, o, h.s, do(number()))
		met[e]++
	}
	if met[api.OK] < 100 || met[api.ErrLitmus] < 1000 || met[api.ErrOrders] < 1000 || met[api.ErrRange] < 300 {
		t.Errorf("only %v", met)
	}
}
